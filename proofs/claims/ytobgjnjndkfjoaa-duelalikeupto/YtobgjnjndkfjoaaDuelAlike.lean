/- PROVED: two of one kind that are equally late know the same after every round. CONDITIONS: the arguments hold together at most 1048576 values. -/
import Derived.Test.YtobgjnjndkfjoaaDAlive
import Derived.Test.YtobgjnjndkfjoaaDGath
import Derived.Test.YtobgjnjndkfjoaaDBulk
namespace Go.Proofs.Ytobgjnjndkfjoaa.D
open Go.RowKit K
set_option linter.unusedVariables false

attribute [local go_sem ↓] V.eqS

set_option maxHeartbeats 6400000 in
theorem da_go (p0 p1 r m j k0 n0 b0 a0 c0 q0 w0 w1 E : Int) (hE : E = 0 ∨ (E != 0) = true ∧ (E == 0) = false) (a : Option Addr) (cap n : Nat) (zs : List Int) (hn : zs.length = n) (hl : n ≤ 1048576) (w : World) (hv : Row w a zs)
    (pl : ∀ ao cp v, VRow v ao (zs.map fun x => (x, x)) → Calls Try.prog 17 #[.agg #[.int .i64 p0, .int .i64 p0, .int .i64 r, .int .i64 m, .int .i64 j], .slice ao n cp] v fun e w' => ∃ s, e = .returned (.tuple #[s, .agg #[.int .i64 k0, .int .i64 n0, .int .i64 b0, .int .i64 a0, .int .i64 c0, .int .i64 q0, .int .i64 k0, .int .i64 n0, .int .i64 b0, .int .i64 a0, .int .i64 c0, .int .i64 q0, .int .i64 w0, .int .i64 w1], .int .i64 E]) ∧ Below v.heap.size v w') :
    Calls Try.prog 8 #[.agg #[.int .i64 p0, .int .i64 p1, .int .i64 r, .int .i64 m, .int .i64 j], .slice a n cap] w fun e w' => e = .returned (.bool true) ∧ Below w.heap.size w w' := by
  obtain ⟨i0, hi, hz0, hz1, hz2⟩ := info_parts Try.info22
  have X := Rul.new w _ rfl p0 p1 r m j
  have B : Below w.heap.size w (w.alloc (.cells #[.int .i64 p0, .int .i64 p1, .int .i64 r, .int .i64 m, .int .i64 j] 24)) := balloc (Below.refl _ _) _
  have s1 := V.same_self k0 n0 b0 a0 c0 q0
  have hlz : Hid (zs.length = n) := hn
  have stp : Hid (∀ k, k < n → (zs.map fun x => (x, x)).take (k + 1) = (zs.map fun x => (x, x)).take k ++ [(zs.getD k 0, zs.getD k 0)]) := fun k hk => by
    rw [take_snoc (0, 0) _ k (by simp; omega)]
    congr 2
    rw [List.getD_eq_getElem?_getD, List.getD_eq_getElem?_getD, List.getElem?_map, List.getElem?_eq_getElem (by omega)]; rfl
  clear hn
  go_enter Try.func8, Try.ntmps8
  go_wp2_with (go_at_call 20; refine (alive_any _).mono ?_; rintro xx v0 ⟨rfl, b⟩; replace X := X.kept b; replace B := bthen B b; clear b; obtain ⟨x0, x1, x2, x3, x4, f0, f1, f2, f3, f4⟩ := id X)
  replace X := X.set1 p0
  have hwl : w.heap.size < v0.heap.size := block_lt x0
  replace B := B.setCell (p := ⟨w.heap.size, 1, none⟩) (Nat.le_refl _) (.int .i64 p0)
  have hv2 := hv.kept B
  clear x0 x1 x2 x3 x4 f0 f1 f2 f3 f4
  obtain ⟨W0, hW0⟩ : ∃ W0, v0.setCell ⟨w.heap.size, 1, none⟩ (.int .i64 p0) = W0 := ⟨_, rfl⟩
  rw [hW0] at X B hv2 ⊢
  clear hW0 hv
  have hst : VGath W0 (.slice none 0 0) W0 ((zs.map fun x => (x, x)).take 0) := VGath.start W0
  go_loopw [5, 20] (fun t i wr => ∃ k : Nat, k ≤ n ∧ i = .int .i64 k ∧ VGath W0 t wr ((zs.map fun x => (x, x)).take k)) (fun _ i _ => n - (intOf i).toNat)
  case atStart => exact ⟨0, Nat.zero_le _, rfl, hst⟩
  case round =>
    clear hst
    obtain ⟨k, hk, rfl, hG⟩ := hrel
    by_cases hlt : k < n
    · have q1 := hlz.out
      obtain ⟨bb, oo, rfl, k1⟩ := (hv2.kept hG.below).at (by omega)
      have cx := k1 k (by omega)
      have e1 := stp.out k hlt
      have hltI : (k : Int) < n := by omega
      have hRl : ((zs.map fun x => (x, x)).take k).length = k := by rw [List.length_take, List.length_map]; omega
      generalize zs.getD k 0 = x at cx e1
      have fin : Hid (∀ t wr, VGath W0 t wr ((zs.map fun x => (x, x)).take k ++ [(x, x)]) → VGath W0 t wr ((zs.map fun x => (x, x)).take (k + 1))) := fun t wr q => by rw [e1]; exact q
      clear e1 k1 pl stp hv2 q1
      generalize (zs.map fun x => (x, x)).take k = R at hG fin hRl
      have hsz := hG.below.size
      have hcn : Hid _ := cell_pair_new wr x x
      go_wp2_with (at_builtin; refine wpList_append_own _ rfl _ _ 40 rfl W0.heap.size 22 i0 (.agg #[.int .i64 0, .int .i64 0]) 2 16 Try.underlying40 hi hz0 hz1 hz2 rfl (by decide) _ _ _ rfl (hG.own.alloc _) ⟨wr.heap.size, 0, none⟩ 1 1 [.int .i64 x, .int .i64 x] rfl rfl hcn.out (by simp [Value.oneCell']) (by unfold maxLen; omega) (by omega) (by simp; omega) ?_; intro t' w2 hown' hgrow _; have hS := fin.out _ _ (hG.next hown' hgrow); clear hown' hgrow hcn)
      go_roundw
      case rel => exact ⟨k + 1, by omega, by go_num, hS⟩
      case measure => simp [intOf]; omega
    · obtain rfl : k = n := by omega
      have hfull : (zs.map fun x => (x, x)).take k = zs.map fun x => (x, x) := List.take_of_length_le (by rw [List.length_map, hlz.out]; exact Nat.le_refl _)
      rw [hfull] at hG
      obtain ⟨ao, cp, et, _, hrow⟩ := hG.done (n := k) (by rw [List.length_map, hlz.out])
      subst et
      replace X := X.kept hG.below
      replace B := B.trans (hG.below.mono B.size)
      replace pl := pl ao cp wr hrow
      clear hG hfull hrow hv2 stp
      obtain ⟨x0, x1, x2, x3, x4, _, _, _, _, _⟩ := id X
      rcases hE with rfl | ⟨hE, hE2⟩
      · go_wp2_with (go_at_call 17; refine pl.mono ?_; clear pl x0 x1 x2 x3 x4; rintro xx v1 ⟨s, rfl, b⟩; have Y := Sta.new v1 _ rfl k0 n0 b0 a0 c0 q0 k0 n0 b0 a0 c0 q0 w0 w1; replace B := balloc (bthen B b) (.cells #[.int .i64 k0, .int .i64 n0, .int .i64 b0, .int .i64 a0, .int .i64 c0, .int .i64 q0, .int .i64 k0, .int .i64 n0, .int .i64 b0, .int .i64 a0, .int .i64 c0, .int .i64 q0, .int .i64 w0, .int .i64 w1] 29); clear b; obtain ⟨W1, hW1⟩ : ∃ W1, v1.alloc (.cells #[.int .i64 k0, .int .i64 n0, .int .i64 b0, .int .i64 a0, .int .i64 c0, .int .i64 q0, .int .i64 k0, .int .i64 n0, .int .i64 b0, .int .i64 a0, .int .i64 c0, .int .i64 q0, .int .i64 w0, .int .i64 w1] 29) = W1 := ⟨_, rfl⟩; rw [hW1] at Y B; obtain ⟨y0, y1, y2, y3, y4, y5, y6, y7, y8, y9, y10, y11, y12, y13, _, _, _, _, _, _, _, _, _, _, _, _, _, _⟩ := Y)
        go_ret
        exact ⟨rfl, B⟩
      · go_wp2_with (go_at_call 17; refine pl.mono ?_; clear pl x0 x1 x2 x3 x4; rintro xx v1 ⟨s, rfl, b⟩; replace B := balloc (bthen B b) (.cells #[.int .i64 k0, .int .i64 n0, .int .i64 b0, .int .i64 a0, .int .i64 c0, .int .i64 q0, .int .i64 k0, .int .i64 n0, .int .i64 b0, .int .i64 a0, .int .i64 c0, .int .i64 q0, .int .i64 w0, .int .i64 w1] 29); clear b)
        go_ret
        exact ⟨rfl, B⟩

theorem duelAlike_walk (p0 p1 r m j : Int) (a : Option Addr) (cap : Nat) (zs : List Int) (w : World) (hv : FarS w a cap zs) (hl : zs.length ≤ 1048576) :
    Calls Try.prog 8 #[.agg #[.int .i64 p0, .int .i64 p1, .int .i64 r, .int .i64 m, .int .i64 j], .slice a zs.length cap] w fun e w' => e = .returned (.bool true) ∧ Below w.heap.size w w' := by
  by_cases h : wrong ⟨p0, p0, r, m, j⟩ = 0
  · have h1 := fun ao cp v q => play_any ⟨p0, p0, r, m, j⟩ h ao cp zs.length (zs.map fun x => (x, x)) (by simp) hl v q
    by_cases g : allLate ⟨p0, p0, r, m, j⟩ (zs.map fun x => (x, x))
    · have ha := steps_alike (r := ⟨p0, p0, r, m, j⟩) (s := K.start ⟨p0, p0, r, m, j⟩) zs rfl
      refine da_go p0 p1 r m j (steps ⟨p0, p0, r, m, j⟩ (K.start ⟨p0, p0, r, m, j⟩) (zs.map fun x => (x, x))).f0.k (steps ⟨p0, p0, r, m, j⟩ (K.start ⟨p0, p0, r, m, j⟩) (zs.map fun x => (x, x))).f0.n (steps ⟨p0, p0, r, m, j⟩ (K.start ⟨p0, p0, r, m, j⟩) (zs.map fun x => (x, x))).f0.b (steps ⟨p0, p0, r, m, j⟩ (K.start ⟨p0, p0, r, m, j⟩) (zs.map fun x => (x, x))).f0.a (steps ⟨p0, p0, r, m, j⟩ (K.start ⟨p0, p0, r, m, j⟩) (zs.map fun x => (x, x))).f0.s (steps ⟨p0, p0, r, m, j⟩ (K.start ⟨p0, p0, r, m, j⟩) (zs.map fun x => (x, x))).f0.q (steps ⟨p0, p0, r, m, j⟩ (K.start ⟨p0, p0, r, m, j⟩) (zs.map fun x => (x, x))).w0 (steps ⟨p0, p0, r, m, j⟩ (K.start ⟨p0, p0, r, m, j⟩) (zs.map fun x => (x, x))).w1 0 (.inl rfl) a cap zs.length zs rfl hl w hv.1 (fun ao cp v q => (h1 ao cp v q).mono ?_)
      rintro e w' ⟨⟨_, ao, cp, rfl, _, hr, _⟩ | ⟨h, _⟩, b⟩
      · refine ⟨.slice ao zs.length cp, ?_, b⟩
        rw [← ha]
      · exact absurd g h
    · refine da_go p0 p1 r m j 0 0 0 0 0 0 0 0 2 (.inr ⟨by decide, by decide⟩) a cap zs.length zs rfl hl w hv.1 (fun ao cp v q => (h1 ao cp v q).mono ?_)
      rintro e w' ⟨⟨h, _⟩ | ⟨_, rfl⟩, b⟩
      · exact absurd h g
      · exact ⟨_, rfl, b⟩
  · refine da_go p0 p1 r m j 0 0 0 0 0 0 0 0 (wrong ⟨p0, p0, r, m, j⟩) (.inr ⟨by simpa using h, by simpa using h⟩) a cap zs.length zs rfl hl w hv.1 (fun ao cp v q => (play_wrong ⟨p0, p0, r, m, j⟩ _ rfl (by simpa using h) _ v).mono ?_)
    rintro e w' ⟨rfl, b⟩
    exact ⟨_, rfl, b⟩

end Go.Proofs.Ytobgjnjndkfjoaa.D
namespace Go.Proofs.Ytobgjnjndkfjoaa.duelAlike
open Go.ChangeShapes Go.WideShapes Go.ChangeAt Go.RowKit D
set_option linter.unusedVariables false

theorem contract (H : Type) (enc : TypeId × Value → H) (W : World) (base : Nat) (args : Array Value) (ds gs : List (DataW H)) (before : List MemPlace)
    (hval : ∀ (j : Nat) t v, Try.f8.params[j]? = some t → args[j]? = some v → Value.okWide Try.prog W .any base t v)
    (hW : DataW.Whole enc Try.prog Try.f8.params.toList Rows.duelAlikeSpec.vars false W args.toList ds gs before) (hk : Rows.uptoSmall H (ds ++ gs) = true) :
    Calls Try.prog 8 args W fun e W' => ∃ v, e = .returned v ∧ Rows.duelAlikeSpec.post enc Try.prog Try.f8 false true false false W args v W' := by
  have hW' := hW
  obtain ⟨p, q, hA0, hV, rfl, hfz, hnd⟩ := hW
  have hA : DataW.TrodAll enc Try.prog W 0 (fun _ => true) true Try.f8.params.toList args.toList ds p := hA0
  rw [Try.params8] at hA hval
  obtain ⟨v0, vs0, d0, ds0, p0, q0, hargs, rfl, rfl, h0, r0⟩ := trodAll_cons hA
  obtain ⟨v1, vs1, d1, ds1, p1, q1, rfl, rfl, rfl, h1, r1⟩ := trodAll_cons r0
  obtain ⟨rfl, rfl, rfl⟩ := trodAll_nil r1
  obtain rfl : args = #[v0, v1] := by cases args; simp_all
  obtain ⟨rfl, rfl⟩ := trodVars_none hV
  have k0 := h0
  have lt0 : ∀ x ∈ p0, x.block < W.heap.size := by obtain ⟨m, hm⟩ := k0; exact DataW.trod_lt m _ _ _ hm
  obtain ⟨x0_0, x0_1, x0_2, x0_3, x0_4, rfl, _⟩ := openR (hval 0 24 v0 rfl rfl) h0
  have k1 := h1
  have lt1 : ∀ x ∈ p1, x.block < W.heap.size := by obtain ⟨m, hm⟩ := k1; exact DataW.trod_lt m _ _ _ hm
  obtain ⟨a1, len1, cap1, rfl⟩ := okWide_slice Try.underlying53 (hval 1 53 v1 rfl rfl)
  obtain ⟨z1, rfl, w1, e1⟩ := farS h1
  have l1 : z1.length ≤ 1048576 := by
    rcases e1 with ⟨_, e⟩ | ⟨elems, spare, e, hle⟩
    · omega
    · subst e
      exact Nat.le_trans hle (bulk_at (i := 1) (elems := elems) (spare := spare) hk rfl)
  clear hA0
  refine (duelAlike_walk x0_0 x0_1 x0_2 x0_3 x0_4 a1 cap1 z1 W w1 l1).mono fun e W' ⟨he, bel⟩ => ?_
  subst he
  exact ⟨_, rfl, _, _, _, [], _, [], hW', trodAll_mk1 (shut_bool Try.underlying4 _), (trodAll_cons_mk (Below.trod laidOut (by kernel_rfl) (of_decide_eq_true (by kernel_rfl)) k0 bel lt0) (trodAll_cons_mk (Below.trod laidOut (by kernel_rfl) (of_decide_eq_true (by kernel_rfl)) k1 bel lt1) trodAll_mk0)), rfl, bel.frame _, fun h => by cases h⟩

set_option maxRecDepth 100000 in
theorem lifted (os : Os) (started : os.Started) (H : Type) (enc : TypeId × Value → H) (F : Stop.Interp) :
    ReturnsInHanded {} Try.checked os 8 .any ((Rows.OpenSpec.upto Rows.duelAlikeSpec).pre6 enc Try.prog Try.f8 Rows.duelAlikeUptoRow.domain false) (((Rows.OpenSpec.upto Rows.duelAlikeSpec).at F).post enc Try.prog Try.f8 false true false false) := by
  refine returnsInHanded_of_cond (C := Try.checked) (s := Rows.OpenSpec.upto Rows.duelAlikeSpec) (k := Rows.uptoSmall) rfl own started (by kernel_rfl) Try.func8
    (OpenSpec.witness (enc := enc) (C := Try.checked) (s := Rows.OpenSpec.upto Rows.duelAlikeSpec) (k := Rows.uptoSmall) rfl false ⟨#[], #[.agg #[.int .i64 0, .int .i64 0, .int .i64 0, .int .i64 0, .int .i64 0], .slice none 0 0], []⟩ 8 (by kernel_rfl) (by kernel_rfl) (by kernel_rfl)
      (x := ([.agg [.agg [.lit (.int .i64 0), .lit (.int .i64 0)], .lit (.int .i64 0), .lit (.int .i64 0), .lit (.int .i64 0)], .nil], [], [])) (by kernel_rfl) rfl (by kernel_rfl)) ?_
  intro W base args ds gs before hval hW _ hk _
  exact contract H enc W base args ds gs before hval hW hk

theorem proved : Rows.DuelAlikeUptoSaid :=
  OpenClaim.holds_of_cond 8 Try.f8 rfl rfl rfl rfl rfl rfl rfl ⟨rfl, rfl, rfl, rfl, rfl⟩ rfl rfl rfl rfl rfl (by kernel_rfl) Try.func8 (by kernel_rfl)
    (of_decide_eq_true (by kernel_rfl)) (by unfold Func.isWrapper; first | (rw [if_pos (by decide +kernel)]; kernel_rfl) | (rw [if_neg (by decide +kernel)]; exact ⟨rfl, rfl⟩))
    (fun os started H enc _ F => lifted os started H enc F)

end Go.Proofs.Ytobgjnjndkfjoaa.duelAlike
namespace Go.Proofs.Ytobgjnjndkfjoaa
theorem duelAlikeUpto_holds : Rows.DuelAlikeUptoSaid := duelAlike.proved
#print axioms duelAlikeUpto_holds
end Go.Proofs.Ytobgjnjndkfjoaa
