/- PROVED: what jitter.Pass and jitter.Delays answer. contracts for the law TopClock with lengths as letters; what slices.Clone of integers answers. the walk of the law TopClock where it asks nothing. CONDITIONS: none beyond each theorem's own. -/
import Derived.Test.YtjageagnclmnjabGreatDoorC49JRight
import Derived.Test.YtjageagnclmnjabGreatDoorC42YWSmall
import Derived.Test.YtjageagnclmnjabGreatDoorC47JPure
section
namespace Go.Proofs.YtjageagnclmnjabGreatDoor.J
set_option maxRecDepth 100000
open Go.RowKit

set_option maxHeartbeats 1600000 in
theorem pass_any (a1 a2 : Option Addr) (c1 c2 : Nat) (t l : List Int) (w : World) (ht : Row w a1 t) (hl : Row w a2 l) (b1 : t.length ≤ 17592186044416) (b2 : l.length ≤ 17592186044416) :
    Calls Tryz.prog 17 #[.slice a1 t.length c1, .slice a2 l.length c2] w (Ans w (pass t l)) := by
  have hr := right_any a1 a2 c1 c2 t l w ht hl b1 b2
  by_cases h : jright t l
  · rw [pass_yes h]
    rw [decide_eq_true h] at hr
    have h1 := h.1
    have hin : Hid (∀ k, k < t.length → 0 ≤ passed t l k ∧ passed t l k ≤ 2199023255552) := fun k hk => passed_in h k hk
    have hpk : Hid (∀ k, k < t.length → 0 ≤ pk t l k ∧ pk t l k ≤ 2199023255552) := fun k hk => pk_in h k (by omega)
    have hti : Hid (∀ k, k < t.length → (0 ≤ t.getD k 0 ∧ t.getD k 0 ≤ 1099511627776) ∧ 0 ≤ l.getD k 0 ∧ l.getD k 0 ≤ 1099511627776) := fun k hk => ⟨h.2.2.1 k hk, h.2.2.2 k (by omega)⟩
    obtain ⟨n, hn⟩ : ∃ n, t.length = n := ⟨_, rfl⟩
    rw [← h1] at hr b2 ⊢
    have hlt1 : ∀ j, j < n → j < t.length := fun j hj => by omega
    have hlt2 : ∀ j, j < n → j < l.length := fun j hj => by omega
    rw [hn] at hr b2 hin hpk hti ⊢
    replace hlt1 : Hid _ := hlt1
    replace hlt2 : Hid _ := hlt2
    clear h h1 b1 hn
    have hmk := run_make_row' (P := Tryz.prog) 24 3 (.int .i64 0) 8 Tryz.underlying24 Tryz.info3 rfl .i64 .i64 n (by omega) (by omega)
    have hst : Hid (∀ q, Cells ((w.drewN q).alloc (.cells (madeCells #[.int .i64 0] n) 3)) w.heap.size n (fill (passed t l) 0)) := fun q => Cells.start (w.drewN q) n _ fun j _ => rfl
    have hB0 : Hid (∀ q, Below w.heap.size w ((w.drewN q).alloc (.cells (madeCells #[.int .i64 0] n) 3))) := fun q => balloc (below_drewN (Below.refl _ _) q) _
    go_enter Tryz.func17, Tryz.ntmps17
    go_wp2_with (go_at_call 18; refine hr.mono ?_; rintro e w1 ⟨rfl, q, rfl⟩; clear hr)
    go_loopw [6, 18] (fun v i wr => ∃ k : Nat, k ≤ n ∧ i = .int .i64 k ∧ v = .int .i64 (pk t l k) ∧ Cells wr w.heap.size n (fill (passed t l) k) ∧ Below w.heap.size w wr) (fun _ i _ => n - (intOf i).toNat)
    case atStart => exact ⟨0, Nat.zero_le _, rfl, rfl, hst.out q, hB0.out q⟩
    case round =>
      obtain ⟨k, hk, rfl, rfl, hC, hB⟩ := hrel
      clear hst hB0 hmk
      by_cases hlt : k < n
      · have hA := hti.out k hlt
        have hX := hin.out k hlt
        have hY := hpk.out k hlt
        have p1 := hlt1.out k hlt
        have p2 := hlt2.out k hlt
        obtain ⟨g1, o1, rfl, k1⟩ := ht.at (by omega)
        obtain ⟨g2, o2, rfl, k2⟩ := hl.at (by omega)
        have cx := (hB.cell (p := ⟨g1, o1 + k, none⟩) (block_lt (k1 k p1))).trans (k1 k p1)
        have cy := (hB.cell (p := ⟨g2, o2 + k, none⟩) (block_lt (k2 k p2))).trans (k2 k p2)
        have cc := hC.c k hlt
        have cf := hC.fz k hlt
        have hN := hC.put (V' := fill (passed t l) (k + 1)) hlt (fill_new (passed t l) k) (fun j _ hj => fill_old (passed t l) k j hj)
        have hs : Hid (pk t l (k + 1) = passed t l k) := rfl
        have hm : max (pk t l k) (t.getD k 0 + l.getD k 0) = passed t l k := rfl
        generalize passed t l k = X at hX hN hm hs
        generalize pk t l k = Y at hY hm ⊢
        generalize t.getD k 0 = x at cx hA hm
        generalize l.getD k 0 = y at cy hA hm
        replace hN : Hid _ := hN
        have hltI : (k : Int) < n := by omega
        clear k1 k2 hti hin hpk hlt1 hlt2 p1 p2 ht hl hC
        go_wp2
        go_roundw
        case rel => exact ⟨k + 1, by omega, by go_num, by rw [hs.out], hN.out, hB.setCell (p := ⟨w.heap.size, k, none⟩) (Nat.le_refl _) _⟩
        case measure => simp [intOf]; omega
      · obtain e : k = n := by omega
        subst e
        go_wp2
        go_ret
        exact (hC.ext fun j hj => (fill_all (passed t l) k j hj).symm).done hB
  · rw [pass_no h]
    rw [decide_eq_false h] at hr
    generalize t.length = n at *
    generalize l.length = m at *
    clear h
    go_enter Tryz.func17, Tryz.ntmps17
    go_wp2_with (go_at_call 18; refine hr.mono ?_; rintro e w1 ⟨rfl, q, rfl⟩; clear hr)
    go_ret
    exact ⟨none, 0, rfl, Nat.le_refl _, .inl rfl, below_drewN (Below.refl _ _) q⟩

set_option maxHeartbeats 1600000 in
theorem delays_any (a1 a2 : Option Addr) (c1 c2 : Nat) (f g : List Int) (w : World) (hf : Row w a1 f) (hg : Row w a2 g) (h1 : f.length ≤ 17592186044416) (h2 : g.length ≤ 17592186044416) :
    Calls Tryz.prog 22 #[.slice a1 f.length c1, .slice a2 g.length c2] w (Ans w (dl f g)) := by
  unfold dl
  obtain ⟨m, hm⟩ : ∃ m, min f.length g.length = m := ⟨_, rfl⟩
  have hmi : min (f.length : Int) (g.length : Int) = (m : Int) := by omega
  have hm1 : m ≤ f.length := by omega
  have hm2 : m ≤ g.length := by omega
  rw [hm]
  clear hm
  generalize hH : (fun k => wrap64 (g.getD k 0 - f.getD k 0)) = H
  have HH : Hid (∀ k, wrap64 (g.getD k 0 - f.getD k 0) = H k) := fun k => congrFun hH k
  clear hH
  have hmk := run_make_row' (P := Tryz.prog) 24 3 (.int .i64 0) 8 Tryz.underlying24 Tryz.info3 rfl .i64 .i64 m (by omega) (by omega)
  have hst : Cells (w.alloc (.cells (madeCells #[.int .i64 0] m) 3)) w.heap.size m (fill H 0) := Cells.start w m _ fun j _ => rfl
  have hB0 : Below w.heap.size w (w.alloc (.cells (madeCells #[.int .i64 0] m) 3)) := balloc (Below.refl _ _) _
  go_enter Tryz.func22, Tryz.ntmps22
  go_wp2
  go_loopw [15] (fun i wr => ∃ k : Nat, k ≤ m ∧ i = .int .i64 k ∧ Cells wr w.heap.size m (fill H k) ∧ Below w.heap.size w wr) (fun i _ => m - (intOf i).toNat)
  case atStart => exact ⟨0, Nat.zero_le _, rfl, hst, hB0⟩
  case round =>
    obtain ⟨k, hk, rfl, hC, hB⟩ := hrel
    clear hst hB0 hmk
    by_cases hlt : k < m
    · obtain ⟨b1, o1, rfl, k1⟩ := hf.at (by omega)
      obtain ⟨b2, o2, rfl, k2⟩ := hg.at (by omega)
      have cx := (hB.cell (p := ⟨b1, o1 + k, none⟩) (block_lt (k1 k (by omega)))).trans (k1 k (by omega))
      have cy := (hB.cell (p := ⟨b2, o2 + k, none⟩) (block_lt (k2 k (by omega)))).trans (k2 k (by omega))
      have cc := hC.c k hlt
      have cf := hC.fz k hlt
      have hN := fun q => (hC.drewN q).put (V' := fill H (k + 1)) hlt (fill_new H k) (fun j _ hj => fill_old H k j hj)
      have hX : Hid (wrap64 (g.getD k 0 - f.getD k 0) = H k) := HH.out k
      have hl1 : (k : Int) < f.length := by omega
      have hl2 : (k : Int) < g.length := by omega
      have hl3 : (k : Int) < m := by omega
      generalize H k = X at hN hX
      generalize f.getD k 0 = x at cx hX
      generalize g.getD k 0 = y at cy hX
      replace hN : Hid _ := hN
      clear k1 k2 hf hg HH hC
      go_wp2
      go_region
      all_goals
        go_wp2
        go_roundw
        case rel => exact ⟨k + 1, by omega, by go_num, by rw [hX.out]; exact hN.out 1, (below_drewN hB 1).setCell (p := ⟨w.heap.size, k, none⟩) (Nat.le_refl _) _⟩
        case measure => simp [intOf]; omega
    · obtain e : k = m := by omega
      subst e
      go_wp2
      go_ret
      exact (hC.ext fun j hj => (fill_all H k j hj).symm).done hB

end Go.Proofs.YtjageagnclmnjabGreatDoor.J

end

section
namespace Go.Proofs.YtjageagnclmnjabGreatDoor.Y
set_option maxRecDepth 100000
open Go.RowKit
set_option linter.unusedVariables false

def AnsR (w : World) (n : Nat) (R : List Int) (e : Ending) (w' : World) : Prop := ∃ ao cap, e = .returned (.slice ao n cap) ∧ Row w' ao R ∧ Below w.heap.size w w'
theorem pass_r (a1 a2 : Option Addr) (c1 c2 n m : Nat) (f g R : List Int) (r : Nat) (w : World) (k1 : Row w a1 f) (k2 : Row w a2 g) (e1 : f.length = n) (e2 : g.length = m) (h : n ≤ 17592186044416) (h2 : m ≤ 17592186044416) (hR : J.pass f g = R) (hl : R.length = r) :
    Calls Tryz.prog 17 #[.slice a1 n c1, .slice a2 m c2] w (AnsR w r R) := by
  subst e1; subst e2; subst hR; subst hl
  exact (J.pass_any a1 a2 c1 c2 f g w k1 k2 h h2).mono fun e w' ⟨ao, cap, he, _, r, b⟩ => ⟨ao, cap, he, r, b⟩
theorem delays_r (a1 a2 : Option Addr) (c1 c2 n m : Nat) (f g R : List Int) (r : Nat) (w : World) (k1 : Row w a1 f) (k2 : Row w a2 g) (e1 : f.length = n) (e2 : g.length = m) (h : n ≤ 17592186044416) (h2 : m ≤ 17592186044416) (hR : J.dl f g = R) (hl : R.length = r) :
    Calls Tryz.prog 22 #[.slice a1 n c1, .slice a2 m c2] w (AnsR w r R) := by
  subst e1; subst e2; subst hR; subst hl
  exact (J.delays_any a1 a2 c1 c2 f g w k1 k2 h h2).mono fun e w' ⟨ao, cap, he, _, r, b⟩ => ⟨ao, cap, he, r, b⟩
theorem jright_r (a1 a2 : Option Addr) (c1 c2 n m : Nat) (f g : List Int) (w : World) (k1 : Row w a1 f) (k2 : Row w a2 g) (e1 : f.length = n) (e2 : g.length = m) (h : n ≤ 17592186044416) (h2 : m ≤ 17592186044416) (b : Bool) (hb : decide (J.jright f g) = b) :
    Calls Tryz.prog 18 #[.slice a1 n c1, .slice a2 m c2] w fun e w' => e = .returned (.bool b) ∧ Below w.heap.size w w' := by
  subst e1; subst e2; subst hb
  exact (J.right_any a1 a2 c1 c2 f g w k1 k2 h h2).mono fun _ _ ⟨he, q, hw⟩ => ⟨he, hw ▸ below_drewN (Below.refl _ _) q⟩
theorem waits_r (a : Option Addr) (c n : Nat) (ps : Rs) (u v : Int) (R : List Int) (r : Nat) (w : World) (k : PRow w a ps) (e1 : ps.length = n) (h : n ≤ 8796093022206) (hu : u ≤ 9223372036854775807) (hv : v ≤ 9223372036854775807) (hR : waits ps u v = R) (hl : R.length = r) :
    Calls Tryz.prog 21 #[.slice a n c, .int .i64 u, .int .i64 v] w (AnsR w r R) := by
  subst e1; subst hR; subst hl
  exact (waits_any a c ps u v w k h hu hv).mono fun e w' ⟨ao, cap, he, _, r, b⟩ => ⟨ao, cap, he, r, b⟩
theorem base_r (a : Option Addr) (c n : Nat) (z : List Int) (u v : Int) (R : List Int) (r : Nat) (w : World) (k : Row w a z) (e1 : z.length = n) (h : n ≤ 8796093022206) (hu : u ≤ 9223372036854775807) (hv : v ≤ 9223372036854775807) (hR : base z u v = R) (hl : R.length = r) :
    Calls Tryz.prog 23 #[.slice a n c, .int .i64 u, .int .i64 v] w (AnsR w r R) := by
  subst e1; subst hR; subst hl
  exact (base_any a c z u v w k h hu hv).mono fun e w' ⟨ao, cap, he, _, r, b⟩ => ⟨ao, cap, he, r, b⟩
theorem minOf_is (zs : List Int) (k : Nat) (h0 : 0 < k) (hk : k ≤ zs.length) : ∀ j, j < k → Lib.minOf (zs.take k) ≤ zs.getD j 0 := by
  induction k with
  | zero => omega
  | succ k ih =>
    intro j hj
    by_cases e : k = 0
    · subst e
      rw [Lib.minOf_one]
      obtain rfl : j = 0 := by omega
      exact Int.le_refl _
    · rw [Lib.minOf_step zs k (by omega) (by omega)]
      by_cases c : j = k
      · subst c; omega
      · have := ih (by omega) (by omega) j (by omega); omega
theorem maxOf_is (zs : List Int) (k : Nat) (h0 : 0 < k) (hk : k ≤ zs.length) : ∀ j, j < k → zs.getD j 0 ≤ Lib.maxOf (zs.take k) := by
  induction k with
  | zero => omega
  | succ k ih =>
    intro j hj
    by_cases e : k = 0
    · subst e
      rw [Lib.maxOf_one]
      obtain rfl : j = 0 := by omega
      exact Int.le_refl _
    · rw [Lib.maxOf_step zs k (by omega) (by omega)]
      by_cases c : j = k
      · subst c; omega
      · have := ih (by omega) (by omega) j (by omega); omega
theorem max_r (a : Option Addr) (c n : Nat) (f : List Int) (w : World) (k : Row w a f) (e1 : f.length = n) (h0 : 0 < n) (h : n ≤ 17592186044416) (M : Int) (hM : Lib.maxOf (f.take n) = M) :
    Calls Tryz.prog 19 #[.slice a n c] w fun e w' => e = .returned (.int .i64 M) ∧ w' = w := by
  subst hM; subst e1
  obtain ⟨b, o, rfl, hc⟩ := k.at h0
  exact Tryz.slices_Max_int b o _ c f w h0 (Nat.le_refl _) (by omega) hc
theorem min_r (a : Option Addr) (c n : Nat) (f : List Int) (w : World) (k : Row w a f) (e1 : f.length = n) (h0 : 0 < n) (h : n ≤ 17592186044416) (M : Int) (hM : Lib.minOf (f.take n) = M) :
    Calls Tryz.prog 24 #[.slice a n c] w fun e w' => e = .returned (.int .i64 M) ∧ w' = w := by
  subst hM; subst e1
  obtain ⟨b, o, rfl, hc⟩ := k.at h0
  exact Tryz.slices_Min_int b o _ c f w h0 (Nat.le_refl _) (by omega) hc
theorem own_empty (w : World) : (w.alloc (.cells #[] 3)).ownsRow w.heap.size 3 1 (.slice (some ⟨w.heap.size, 0, none⟩) 0 0) 0 [] := by
  refine ⟨rfl, .inr ⟨w.heap.size, 0, #[], rfl, Nat.le_refl _, ?_, Nat.le_refl _, by unfold maxLen; omega, rfl, rfl⟩⟩
  show (w.heap.push _)[w.heap.size]? = _
  exact Array.getElem?_push_size
set_option maxHeartbeats 1600000 in
theorem clone_own (ao : Option Addr) (c n : Nat) (z : List Int) (w : World) (hz : Row w ao z) (hn : z.length = n) (hl : n ≤ 8796093022206) :
    Calls Tryz.prog 20 #[.slice ao n c] w fun e w' => ∃ v, e = .returned v ∧ w'.ownsRow w.heap.size 3 1 v n (z.map (Value.int .i64)) ∧ Below w.heap.size w w' := by
  obtain ⟨i0, hi, hz0, hz1, hz2⟩ := info_parts Tryz.info3
  cases ao with
  | none =>
    obtain rfl : z = [] := by
      rcases hz with h | ⟨_, _, h, _⟩
      · exact h
      · cases h
    obtain rfl : n = 0 := by simpa using hn.symm
    have he : ∀ w : World, (binOp .eql 24 (.slice none 0 c) (.slice none 0 0)).run Tryz.prog w = .ok (.bool true) w := fun _ => rfl
    go_enter Tryz.func20, Tryz.ntmps20
    go_wp2
    go_ret
    exact ⟨_, rfl, World.ownsRow_nil _ _ _ _, Below.refl _ _⟩
  | some ad =>
    have hf : Hid (∀ j u, (z.map (Value.int .i64))[j]? = some u → w.cell? (ad.add j) = some u) := fun j u hu => by
      have hj : j < z.length := by
        have := (List.getElem?_eq_some_iff.1 hu).1
        simpa using this
      obtain ⟨b, off, e, h⟩ := hz.at (by omega)
      injection e with e
      subst e
      rw [Addr.add_lit, h j hj, ← hu]
      simp [List.getD_eq_getElem?_getD, hj]
    have hfl : (z.map (Value.int .i64)).length = n * 1 := by simpa using hn
    have hf1 : Hid (∀ u ∈ z.map (Value.int .i64), u.oneCell' = true) := fun u hu => by
      obtain ⟨x, _, rfl⟩ := List.mem_map.1 hu
      rfl
    have hlt : Hid (∀ j u, (z.map (Value.int .i64))[j]? = some u → (w.alloc (.cells #[] 3)).cell? (ad.add j) = some u) := fun j u hu => by
      have := hf.out j u hu
      exact ((balloc (Below.refl w.heap.size w) (.cells #[] 3)).cell (p := ad.add j) (block_lt this)).trans this
    generalize z.map (Value.int .i64) = F at *
    have he : ∀ w : World, (binOp .eql 24 (.slice (some ad) n c) (.slice none 0 0)).run Tryz.prog w = .ok (.bool false) w := fun _ => rfl
    have hown := own_empty w
    clear hz hn hf
    go_enter Tryz.func20, Tryz.ntmps20
    go_wp2_with (at_builtin; refine wpList_append_own _ rfl _ _ 24 rfl w.heap.size 3 i0 (.int .i64 0) 1 8 Tryz.underlying24 hi hz0 hz1 hz2 rfl (by decide) _ 0 [] rfl hown ad n c F rfl hfl hlt.out hf1.out (by unfold maxLen; omega) (by omega) (by simp) ?_; intro v' w2 ho hg _; have hB := (balloc (Below.refl w.heap.size w) (.cells #[] 3)); have hB2 := hB.grown hg hB.size (fun q hq => (hown.lt q hq).1); rw [List.nil_append, Nat.zero_add] at ho; clear hg hB hown hlt hf1)
    go_ret
    exact ⟨_, rfl, ho, hB2⟩
end Go.Proofs.YtjageagnclmnjabGreatDoor.Y

end

section
namespace Go.Proofs.YtjageagnclmnjabGreatDoor.Y
set_option maxRecDepth 100000
open Go.RowKit
set_option linter.unusedVariables false

set_option maxHeartbeats 6400000 in
theorem clock_bad (a1 a2 : Option Addr) (c1 c2 n m np : Nat) (t l P : List Int) (u v off : Int) (w : World) (L : D.Lw w) (h1 : Row w a1 t) (h2 : Row w a2 l) (e1 : Hid (t.length = n)) (e2 : Hid (l.length = m)) (b1 : n ≤ 17592186044416) (b2 : m ≤ 17592186044416)
    (eP : Hid (J.pass t l = P)) (lP : Hid (P.length = np)) (b : Bool) (hb : Hid (decide (J.jright t l) = b))
    (hbad : b = false ∨ b = true ∧ decide (274877906944 < off) = true ∨ b = true ∧ decide (274877906944 < off) = false ∧ decide (off < -274877906944) = true) :
    Calls Tryz.prog 5 #[.slice a1 n c1, .slice a2 m c2, .int .i64 u, .int .i64 v, .int .i64 off] w fun e w' => e = .returned (.bool true) ∧ Below w.heap.size w w' := by
  rcases hbad with rfl | ⟨rfl, t1⟩ | ⟨rfl, t1, t2⟩
  all_goals
    go_enter Tryz.func5, Tryz.ntmps5
    go_wp2_with (first
      | (go_at_call 7; refine (D.alive_top _ L).mono ?_; clear L; rintro e v0 ⟨rfl, B⟩; replace h1 := h1.kept B; replace h2 := h2.kept B)
      | (go_at_call 17; refine (pass_r a1 a2 _ _ n m t l P np _ h1 h2 e1.out e2.out b1 b2 eP.out lP.out).mono ?_; rintro e v1 ⟨ao, cp, rfl, h4, b9⟩; replace h1 := h1.kept b9; replace h2 := h2.kept b9; replace B := bthen B b9; clear b9)
      | (go_at_call 18; refine (jright_r a1 a2 _ _ n m t l _ h1 h2 e1.out e2.out b1 b2 _ hb.out).mono ?_; rintro e v3 ⟨rfl, b9⟩; replace B := bthen B b9; clear b9 h1 h2))
    go_ret
    exact ⟨rfl, B⟩
/-- an operation behind a guard that lets it run -/
theorem wpList_ran {P : Program} {ops : Array Oper} {Q : Exit → Act → World → Prop} {a : Act} {w : World} {rest : List Oper} {o : Oper} (hg : Region.wanted o (yielded ops a.tmps) = true)
    (h : ∀ K : Act → World → Prop, (∀ a w, wpList P ops Q rest a w → K a w) → o.wp P a w K Q) : wpList P ops Q (o :: rest) a w :=
  wpList_step fun K hK => by rw [if_pos hg]; exact h K hK
theorem map_snoc (P : List Int) (x : Int) : P.map (Value.int .i64) ++ [.int .i64 x] = (P ++ [x]).map (Value.int .i64) := by simp
theorem own_row {w : World} {B n : Nat} {v : Value} {R : List Int} (h : w.ownsRow B 3 1 v n (R.map (Value.int .i64))) (hl : R.length = n) : ∃ ao cap, v = .slice ao n cap ∧ Row w ao R := by
  subst hl
  exact owned_row h
set_option maxHeartbeats 6400000 in
theorem clock_big (a1 a2 : Option Addr) (c1 c2 n m : Nat) (t l P : List Int) (u v off Mx : Int) (w : World) (L : D.Lw w) (h1 : Row w a1 t) (h2 : Row w a2 l) (e1 : Hid (t.length = n)) (e2 : Hid (l.length = m)) (b1 : n ≤ 1048576) (b2 : m ≤ 1048576)
    (eP : Hid (J.pass t l = P)) (lP : Hid (P.length = n)) (hb : Hid (decide (J.jright t l) = true)) (t1 : decide (274877906944 < off) = false) (t2 : decide (off < -274877906944) = false) (hM : Hid (Lib.maxOf ((P ++ [0]).take (n + 1)) = Mx)) (t3 : decide (549755813888 < Mx) = true) :
    Calls Tryz.prog 5 #[.slice a1 n c1, .slice a2 m c2, .int .i64 u, .int .i64 v, .int .i64 off] w fun e w' => e = .returned (.bool true) ∧ Below w.heap.size w w' := by
  obtain ⟨i0, hi, hz0, hz1, hz2⟩ := info_parts Tryz.info3
  have hsn := map_snoc P 0
  have hPl : (P ++ [0]).length = n + 1 := by simp [lP.out]
  replace hsn : Hid _ := hsn
  replace hPl : Hid _ := hPl
  go_enter Tryz.func5, Tryz.ntmps5
  go_wp2_with (first
      | (go_at_call 7; refine (D.alive_top _ L).mono ?_; clear L; rintro e v0 ⟨rfl, B⟩; replace h1 := h1.kept B; replace h2 := h2.kept B)
      | (go_at_call 17; refine (pass_r a1 a2 _ _ n m t l P n _ h1 h2 e1.out e2.out (by omega) (by omega) eP.out lP.out).mono ?_; rintro e v1 ⟨ao, cp, rfl, h4, b9⟩; replace h1 := h1.kept b9; replace h2 := h2.kept b9; replace B := bthen B b9; clear b9)
      | (go_at_call 18; refine (jright_r a1 a2 _ _ n m t l _ h1 h2 e1.out e2.out (by omega) (by omega) _ hb.out).mono ?_; rintro e v3 ⟨rfl, b9⟩; replace h4 := h4.kept b9; replace B := bthen B b9; clear b9 h1 h2)
      | (go_at_call 20; refine (clone_own ao _ n P _ h4 lP.out (by omega)).mono ?_; rintro e v4 ⟨x, rfl, ho, b9⟩; have hs4 := b9.size; have B4 := b9; clear b9)
      | (at_builtin; refine wpList_ran (by rfl) fun K hK => ?_; refine wp_append_own _ _ _ 24 rfl v3.heap.size 3 i0 (.int .i64 0) 1 8 Tryz.underlying24 hi hz0 hz1 hz2 rfl (by decide) _ _ _ rfl (ho.alloc _) ⟨v4.heap.size, 0, none⟩ 1 1 [.int .i64 0] rfl rfl (cell_one_new _ _ _) (by simp [Value.oneCell']) (by unfold maxLen; omega) (by omega) (by simp; omega) ?_; intro t' w2 ho2 hg _; rw [hsn.out] at ho2; obtain ⟨ar, cr, rfl, hr⟩ := own_row ho2 hPl.out; have B3 := (B4.alloc hs4 (.cells #[.int .i64 0] 3)).grown hg (by simp; omega) (fun q hq => (ho.lt q hq).1); replace B := bthen B B3; clear B3 B4 ho hg ho2; refine hK _ _ ?_; clear hK)
      | (go_at_call 19; refine (max_r ar _ (n + 1) (P ++ [0]) _ hr hPl.out (by omega) (by omega) Mx hM.out).mono ?_; rintro e w'' ⟨rfl, rfl⟩))
  go_ret
  exact ⟨rfl, B⟩
end Go.Proofs.YtjageagnclmnjabGreatDoor.Y

end
