/- PROVED: what the document's own QMost answers. CONDITIONS: none beyond each theorem's own. -/
import Derived.Test.YtjageagnclmnjaaGreatDoorB32QEdg
import Derived.Test.YtjageagnclmnjaaGreatDoorB35QSame
namespace Go.Proofs.YtjageagnclmnjaaGreatDoor.Q
set_option maxRecDepth 100000
open Go.RowKit

/-- what is owned may be written -/
theorem owned_cellsR {w : World} {base : Nat} {t : Value} {n : Nat} {f : Nat → Int} (h0 : 0 < n) (h : w.ownsRow base 3 1 t n ((outs f n).map (Value.int .i64))) : ∃ g cap, t = .slice (some ⟨g, 0, none⟩) n cap ∧ base ≤ g ∧ Cells w g n f := by
  obtain ⟨hl, ⟨e, e2⟩ | ⟨g, cap, cur, e, hg, hh, hnc, _, hcs, htk⟩⟩ := h
  · omega
  · refine ⟨g, cap, e, hg, ⟨fun j hj => ?_, fun j hj => ?_⟩⟩
    · have : ((outs f n).map (Value.int .i64))[j]? = some (.int .i64 (f j)) := by simp [outs, hj]
      rw [← htk, List.getElem?_take_of_lt (by omega)] at this
      simp [World.cell?, hh]
      simpa using this
    · simp [World.frozen?, hh]
theorem same_outs (X M cx cm n : Nat) (f g : Nat → Int) (w : World) (hn : n ≤ 300) (h1 : Cells w X n f) (h2 : Cells w M n g) :
    Calls Tryz.prog 70 #[.slice (some ⟨X, 0, none⟩) n cx, .slice (some ⟨M, 0, none⟩) n cm] w fun e w' => e = .returned (.bool (decide (outs f n = outs g n))) ∧ ∃ q, w' = w.drewN q := by
  have := sameints_any (some ⟨X, 0, none⟩) (some ⟨M, 0, none⟩) cx cm (outs f n) (outs g n) w h1.row h2.row (by rw [outs_len]; omega)
  rw [outs_len, outs_len] at this
  exact this
theorem outs_eq {f g : Nat → Int} {n : Nat} (h : outs f n = outs g n) (v : Nat) (hv : v < n) : f v = g v := by
  have := congrArg (fun l => l.getD v 0) h
  simp only [outs_getD _ _ _ hv] at this
  exact this
/-- another round moves something -/
def Mvs (n : Nat) (es : List Eg) (k : Nat) : Prop := ∃ v, v < n ∧ mo es (k + 1) v ≠ mo es k v
theorem mvs_of {n : Nat} {es : List Eg} {k : Nat} (h : outs (mo es (k + 1)) n ≠ outs (mo es k) n) : Mvs n es k := by
  apply Classical.byContradiction
  intro q
  exact h (outs_ext fun j hj => Classical.byContradiction fun hj2 => q ⟨j, hj, hj2⟩)

/-- what QMost answers -/
def QAns (n : Nat) (es : List Eg) (e : Ending) (w' : World) : Prop :=
  (∃ M c k, e = .returned (.tuple #[.slice (some ⟨M, 0, none⟩) n c, .bool true]) ∧ Cells w' M n (mo es k) ∧ ∀ v, v < n → mo es (k + 1) v = mo es k v) ∨ (e = .returned (.tuple #[.slice none 0 0, .bool false]) ∧ ∀ k, k ≤ n → Mvs n es k)

set_option maxHeartbeats 6400000 in
theorem qmost_pos (n : Nat) (hn0 : 0 < n) (es : List Eg) (hG : Gph n es) (a : Option Addr) (cap : Nat) (w : World) (hE : GRow w a es) :
    Calls Tryz.prog 44 #[.agg #[.int .i64 n, .slice a es.length cap]] w fun e w' => QAns n es e w' ∧ Below w.heap.size w w' := by
  obtain ⟨i0, hi, hz0, hz1, hz2⟩ := info_parts Tryz.info3
  have hm4 := hG.m4
  have hn3 := hG.n3
  have hmk := run_make_row' (P := Tryz.prog) 66 3 (.int .i64 0) 8 Tryz.underlying66 Tryz.info3 rfl .i64 .i64 n (by omega) (by omega)
  have hB0 : Below w.heap.size w (w.alloc (.cells #[.int .i64 n, .slice a es.length cap] 52)) := balloc (Below.refl _ _) _
  have K0 := Gb.new w n a es.length cap
  have hE0 := hE.kept hB0
  have hgh : Hid (Gph n es) := hG
  obtain ⟨m, hm⟩ : ∃ m, es.length = m := ⟨_, rfl⟩
  have hlm : Hid (es.length = m) := hm
  rw [hm] at hm4 hB0 K0 hE0 ⊢
  clear hm hE hG
  obtain ⟨w0, hw0⟩ : ∃ w0, w.alloc (.cells #[.int .i64 n, .slice a m cap] 52) = w0 := ⟨_, rfl⟩
  rw [hw0] at hB0 K0 hE0
  obtain ⟨k0, k1⟩ := id K0
  have hst : Cells (w0.alloc (.cells (madeCells #[.int .i64 0] n) 3)) w0.heap.size n (mo es 0) := Cells.start w0 n _ fun _ _ => rfl
  have hBs : Below w0.heap.size w0 (w0.alloc (.cells (madeCells #[.int .i64 0] n) 3)) := balloc (Below.refl _ _) _
  obtain ⟨N1, hN1⟩ : ∃ N1 : Nat, N1 = n + 1 := ⟨_, rfl⟩
  have hN1I : (n : Int) + 1 = (N1 : Int) := by omega
  obtain ⟨k2, k3⟩ := K0.kept hBs
  replace hN1 : Hid _ := hN1
  go_enter Tryz.func44, Tryz.ntmps44
  go_wp2
  clear hmk k0 k1 k2 k3
  go_loopw [4, 14] (fun c i wr => ∃ k M cm : Nat, k ≤ N1 ∧ i = .int .i64 k ∧ c = .slice (some ⟨M, 0, none⟩) n cm ∧ Cells wr M n (mo es k) ∧ Below w0.heap.size w0 wr ∧ ∀ j, j < k → Mvs n es j) (fun _ i _ => N1 - (intOf i).toNat)
  case atStart => exact ⟨0, w0.heap.size, n, Nat.zero_le _, rfl, rfl, hst, hBs, fun j h => by omega⟩
  case round =>
    obtain ⟨k, M, cm, hk, rfl, rfl, hC, hB, hA⟩ := hrel
    clear hst hBs
    by_cases hlt : k < N1
    · have hkI : (k : Int) < (N1 : Int) := by omega
      have hbl : M < wr.heap.size := block_lt (hC.c 0 hn0)
      have hf : Hid (∀ j u, ((outs (mo es k) n).map (Value.int .i64))[j]? = some u → wr.cell? ⟨M, 0 + j, none⟩ = some u) := fun j u hu => by
        have hj : j < n := by
          have := (List.getElem?_eq_some_iff.1 hu).1
          simpa [outs] using this
        rw [Nat.zero_add, hC.c j hj, ← hu]
        simp [outs, hj]
      have hfl : ((outs (mo es k) n).map (Value.int .i64)).length = n := by simp [outs]
      have hf1 : Hid (∀ u ∈ (outs (mo es k) n).map (Value.int .i64), u.oneCell' = true) := fun u hu => by
        obtain ⟨x, _, rfl⟩ := List.mem_map.1 hu
        rfl
      have hpo : Hid (∀ B w' v, w'.ownsRow B 3 1 v n ((outs (mo es k) n).map (Value.int .i64)) → ∃ g c, v = .slice (some ⟨g, 0, none⟩) n c ∧ B ≤ g ∧ Cells w' g n (mo es k)) := fun B w' v ho => owned_cellsR hn0 ho
      generalize (outs (mo es k) n).map (Value.int .i64) = F at *
      go_wp2_with (at_builtin; refine wpList_append_grows _ rfl _ _ 66 rfl 3 i0 (.int .i64 0) 1 8 Tryz.underlying66 hi hz0 hz1 hz2 rfl (by decide) (some ⟨wr.heap.size, 0, none⟩) 0 0 [] rfl ?hn ?lo ?olds ⟨M, 0, none⟩ n cm F rfl ?hfl ?c1 ?hf1 ?full ?b1 ?b2 ?grow)
      case lo => rfl
      case olds => intro q _ j u hu; simp at hu
      case hfl => omega
      case hf1 => exact hf1.out
      case c1 =>
        intro j u hu
        rw [Addr.add_lit, World.cell?_alloc_past _ _ _ hbl]
        exact hf.out j u hu
      case full => omega
      case b1 => unfold maxLen; omega
      case b2 => omega
      case grow =>
        intro v' w2 hown hgrow
        have hB1 := (balloc (Below.refl wr.heap.size wr) (.cells #[] 3))
        obtain ⟨X, cx, rfl, q2, hX⟩ := hpo.out _ _ _ hown
        have hB2 := hB1.grown hgrow hB1.size (fun k h => by cases h)
        have hXw : wr.heap.size ≤ X := by omega
        clear hown hgrow hpo hf hf1 hfl hB1 F q2
        obtain ⟨k0, k1⟩ := (K0.kept (bthen hB hB2))
        go_wp2
        clear k0 k1
        go_loopw [22] (fun i ws => ∃ j : Nat, j ≤ m ∧ i = .int .i64 j ∧ Cells ws X n (rx es (mo es k) j) ∧ Below wr.heap.size wr ws) (fun i _ => m - (intOf i).toNat)
        case atStart => exact ⟨0, Nat.zero_le _, rfl, hX, hB2⟩
        case round =>
          obtain ⟨j, hj, rfl, hX1, hBi⟩ := hrel
          clear hX hB2
          by_cases hjm : j < m
          · have q1 := hlm.out
            have G := hgh.out
            have hin := G.inn _ (eg_mem (es := es) (i := j) (by omega))
            have hx := G.wgt _ (eg_mem (es := es) (i := j) (by omega))
            obtain ⟨b, off, rfl, e1⟩ := (hE0.kept (bthen hB hBi)).at (by omega)
            obtain ⟨cx1, cy1, cz1⟩ := e1 j (by omega)
            have hjI : (j : Int) < (m : Int) := by omega
            have hnx : Hid (∀ v, rx es (mo es k) (j + 1) v = if (eg es j).t = v then max (rx es (mo es k) j v) (mo es k (eg es j).f + (eg es j).x) else rx es (mo es k) j v) := fun v => rx_succ es _ j (by omega) v
            have hkN : k ≤ 300 := by have := hN1.out; omega
            have rf := mo_range G.wgt k (eg es j).f
            have rt := rx_range G.wgt (fun v => mo_range G.wgt k v) j (by omega) (eg es j).t
            have hC1 := hC.kept hBi
            obtain ⟨R1, hR1⟩ : ∃ R1, rx es (mo es k) (j + 1) = R1 := ⟨_, rfl⟩
            rw [hR1] at hnx
            replace hR1 : Hid _ := hR1
            generalize rx es (mo es k) j = R at *
            obtain ⟨D, hD⟩ : ∃ D, mo es k = D := ⟨_, rfl⟩
            rw [hD] at hC1 hnx rf
            replace hD : Hid _ := hD
            obtain ⟨⟨f, t, x⟩, he⟩ : ∃ e, eg es j = e := ⟨_, rfl⟩
            rw [he] at cx1 cy1 cz1 hin hx hnx rf rt
            simp only at cx1 cy1 cz1 hin hx rf rt
            replace hnx : Hid (∀ v, R1 v = if t = v then max (R v) (D f + x) else R v) := hnx.out
            clear e1 q1 G he
            have x0 : (wr.alloc (.cells #[.int .i64 (f : Int), .int .i64 (t : Int), .int .i64 x] 81)).cell? ⟨wr.heap.size, 0, none⟩ = some (.int .i64 f) := by rw [World.cell?_alloc_at _ _ _ _ rfl]; rfl
            have x1 : (wr.alloc (.cells #[.int .i64 (f : Int), .int .i64 (t : Int), .int .i64 x] 81)).cell? ⟨wr.heap.size, 1, none⟩ = some (.int .i64 t) := by rw [World.cell?_alloc_at _ _ _ _ rfl]; rfl
            have x2 : (wr.alloc (.cells #[.int .i64 (f : Int), .int .i64 (t : Int), .int .i64 x] 81)).cell? ⟨wr.heap.size, 2, none⟩ = some (.int .i64 x) := by rw [World.cell?_alloc_at _ _ _ _ rfl]; rfl
            have hX3 := hX1.alloc (.cells #[.int .i64 (f : Int), .int .i64 (t : Int), .int .i64 x] 81)
            have hC3 := hC1.alloc (.cells #[.int .i64 (f : Int), .int .i64 (t : Int), .int .i64 x] 81)
            have hB3 := hBi.alloc hBi.size (.cells #[.int .i64 (f : Int), .int .i64 (t : Int), .int .i64 x] 81)
            obtain ⟨W1, hW1⟩ : ∃ W1, wr.alloc (.cells #[.int .i64 (f : Int), .int .i64 (t : Int), .int .i64 x] 81) = W1 := ⟨_, rfl⟩
            rw [hW1] at x0 x1 x2 hX3 hC3 hB3
            have ct := hX3.c t hin.2
            have ft := hX3.fz t hin.2
            have cf := hC3.c f hin.1
            have fI : (f : Int) < (n : Int) := by omega
            have tI : (t : Int) < (n : Int) := by omega
            obtain ⟨W, hW⟩ : ∃ W, D f + x = W := ⟨_, rfl⟩
            have hWw : IntKind.i64.wrap (D f + x) = W := by rw [← hW]; exact wrap_in (by omega)
            have hWv : wrap64 (D f + x) = W := by rw [← hW]; exact IntWalk.wrap64_in _ (by omega)
            obtain ⟨V, hV⟩ : ∃ V, max (R t) W = V := ⟨_, rfl⟩
            have hN : ∀ q : Nat, Cells ((W1.drewN q).setCell ⟨X, t, none⟩ (.int .i64 V)) X n R1 := fun q => (hX3.drewN q).put hin.2 (by rw [hnx.out, if_pos rfl, hW, hV]) (fun j _ hj => by rw [hnx.out, if_neg (fun q => hj q.symm)])
            have hBn := fun q : Nat => Below.setCell (p := ⟨X, t, none⟩) (below_drewN hB3 q) hXw (.int .i64 V)
            replace hN : Hid _ := hN
            replace hBn : Hid _ := hBn
            replace hW : Hid _ := hW
            clear hX3 hC3 hX1 hC1 hnx rf rt
            generalize R t = dt at *
            generalize D f = df at *
            go_wp2
            go_region
            all_goals
              go_wp2
              go_roundw
              case rel => exact ⟨j + 1, by omega, by go_num, by rw [hR1.out]; exact hN.out 1, hBn.out 1⟩
              case measure => simp [intOf]; omega
          · obtain rfl : j = m := by omega
            have hX2 : Cells wr X n (mo es (k + 1)) := hX1.ext fun v _ => by
              have := rx_all es (mo es k) v
              rw [hlm.out] at this
              exact this.symm
            have hC2 := hC.kept hBi
            have hs := same_outs X M cx cm n _ _ wr hn3 hX2 hC2
            have hB4 := bthen hB hBi
            by_cases heq : outs (mo es (k + 1)) n = outs (mo es k) n
            · rw [decide_eq_true heq] at hs
              replace heq : Hid _ := heq
              clear hA hX1
              go_wp2_with (go_at_call 70; refine hs.mono ?_; rintro e w3 ⟨rfl, q, rfl⟩; clear hs)
              go_ret2
              exact ⟨.inl ⟨M, cm, k, rfl, hC2.drewN q, fun v hv => outs_eq heq.out v hv⟩, below_drewN (bthen hB0 hB4) q⟩
            · rw [decide_eq_false heq] at hs
              have hA2 : Hid (∀ j, j < k + 1 → Mvs n es j) := fun j hj => by
                by_cases e : j = k
                · subst e; exact mvs_of heq
                · exact hA j (by omega)
              clear hA hX1 heq
              go_wp2_with (go_at_call 70; refine hs.mono ?_; rintro e w3 ⟨rfl, q, rfl⟩; clear hs)
              go_roundw
              case rel => exact ⟨k + 1, X, cx, by omega, by go_num, rfl, hX2.drewN q, below_drewN hB4 q, hA2.out⟩
              case measure => simp [intOf]; omega
    · obtain rfl : k = N1 := by omega
      go_wp2
      go_ret2
      exact ⟨.inr ⟨rfl, fun j hj => hA j (by have := hN1.out; omega)⟩, bthen hB0 hB⟩

set_option maxHeartbeats 1600000 in
theorem qmost_zero (a : Option Addr) (cap : Nat) (w : World) :
    Calls Tryz.prog 44 #[.agg #[.int .i64 0, .slice a 0 cap]] w fun e w' => (∃ M c, e = .returned (.tuple #[.slice (some ⟨M, 0, none⟩) 0 c, .bool true])) ∧ Below w.heap.size w w' := by
  have hmk : ∀ w : World, (Instr.makeSlice 66 (.int .i64 (0 : Int)) (.int .i64 (0 : Int))).run Tryz.prog w = .ok (.slice (some ⟨w.heap.size, 0, none⟩) 0 0) (w.alloc (.cells (madeCells #[.int .i64 0] 0) 3)) := fun w => run_make_row' (P := Tryz.prog) 66 3 (.int .i64 0) 8 Tryz.underlying66 Tryz.info3 rfl .i64 .i64 0 (by omega) (by omega) w
  have hB0 : Below w.heap.size w (w.alloc (.cells #[.int .i64 0, .slice a 0 cap] 52)) := balloc (Below.refl _ _) _
  obtain ⟨w0, hw0⟩ : ∃ w0, w.alloc (.cells #[.int .i64 0, .slice a 0 cap] 52) = w0 := ⟨_, rfl⟩
  have K0 := Gb.new w 0 a 0 cap
  rw [hw0] at hB0 K0
  obtain ⟨k0, k1⟩ := id K0
  have hBs : Below w0.heap.size w0 (w0.alloc (.cells (madeCells #[.int .i64 0] 0) 3)) := balloc (Below.refl _ _) _
  obtain ⟨k2, k3⟩ := K0.kept hBs
  go_enter Tryz.func44, Tryz.ntmps44
  go_wp2
  go_loopw [4, 14] (fun c i wr => ∃ M : Nat, i = .int .i64 0 ∧ c = .slice (some ⟨M, 0, none⟩) 0 0 ∧ Below w0.heap.size w0 wr) (fun _ _ _ => 0)
  case atStart => exact ⟨w0.heap.size, rfl, rfl, hBs⟩
  case round =>
    obtain ⟨M, rfl, rfl, hB⟩ := hrel
    clear k0 k1 k2 k3 hmk
    have hB2 := balloc hB (.cells #[] 3)
    obtain ⟨k0, k1⟩ := K0.kept hB2
    have hs := same_outs wr.heap.size M 0 0 0 (fun _ => 0) (fun _ => 0) (wr.alloc (.cells #[] 3)) (by omega) ⟨fun j h => by omega, fun j h => by omega⟩ ⟨fun j h => by omega, fun j h => by omega⟩
    rw [decide_eq_true rfl] at hs
    go_wp2
    obtain ⟨W1, hW1⟩ : ∃ W1, wr.alloc (.cells #[] 3) = W1 := ⟨_, rfl⟩
    rw [hW1] at hB2 hs k0 k1 ⊢
    have hb3 := bthen hB0 hB2
    obtain ⟨X, hX⟩ : ∃ X, wr.heap.size = X := ⟨_, rfl⟩
    rw [hX] at hs ⊢
    clear hX hW1 hB hB2 hB0
    go_loopw [22] (fun i ws => i = .int .i64 0 ∧ W1 = ws) (fun _ _ => 0)
    case atStart => exact ⟨rfl, rfl⟩
    case round =>
      obtain ⟨rfl, rfl⟩ := hrel
      go_wp2_with (go_at_call 70; refine hs.mono ?_; rintro e w3 ⟨rfl, q, rfl⟩; clear hs)
      go_ret2
      exact ⟨⟨M, 0, rfl⟩, below_drewN hb3 q⟩

theorem qmost_any (n : Nat) (es : List Eg) (hG : Gph n es) (a : Option Addr) (cap : Nat) (w : World) (hE : GRow w a es) :
    Calls Tryz.prog 44 #[.agg #[.int .i64 n, .slice a es.length cap]] w fun e w' => QAns n es e w' ∧ Below w.heap.size w w' := by
  by_cases hn : 0 < n
  · exact qmost_pos n hn es hG a cap w hE
  · obtain rfl : n = 0 := by omega
    cases es with
    | nil => exact (qmost_zero a cap w).mono fun e w' ⟨⟨M, c, h1⟩, h2⟩ => ⟨.inl ⟨M, c, 0, h1, ⟨fun j h => by omega, fun j h => by omega⟩, fun v hv => by omega⟩, h2⟩
    | cons e l => have := (hG.inn e (by simp)).1; omega

end Go.Proofs.YtjageagnclmnjaaGreatDoor.Q
