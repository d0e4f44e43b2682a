/- PROVED: a climber in memory; what (*climber).pass does to it. what slices.Repeat answers of one number. CONDITIONS: none beyond each theorem's own. -/
import Derived.Test.YtjageagnclmnjabGreatDoorB32Lts
import Derived.Test.YtjageagnclmnjabGreatDoorB04Shelf
import Derived.Laws.CopyOwn
namespace Go.Proofs.YtjageagnclmnjabGreatDoor.Q
open Go.RowKit

/-- a climber: its struct in block P, what it knows in blocks M and A -/
structure Cb (w : World) (P M A n : Nat) (s : St) : Prop where
  c0 : w.cell? ⟨P, 0, none⟩ = some (.slice (some ⟨M, 0, none⟩) n n)
  c1 : w.cell? ⟨P, 1, none⟩ = some (.slice (some ⟨A, 0, none⟩) n n)
  c2 : w.cell? ⟨P, 2, none⟩ = some (.int .i64 s.r)
  f2 : w.frozen? ⟨P, 2, none⟩ = false
  cd : Cells w M n s.d
  cl : Cells w A n s.l
  pm : P ≠ M
  pa : P ≠ A
  ma : M ≠ A
theorem frozen_kept {w w' : World} {O o : Nat} (h : w.frozen? ⟨O, o, none⟩ = false) (hO : O < w.heap.size) (b : Below w.heap.size w w') : w'.frozen? ⟨O, o, none⟩ = false := by
  have := b.block O hO
  simp only [World.frozen?] at h ⊢
  rw [this]; exact h
theorem Cb.kept {w w' : World} {P M A n : Nat} {s : St} (h : Cb w P M A n s) (b : Below w.heap.size w w') : Cb w' P M A n s :=
  ⟨(b.cell (p := ⟨P, 0, none⟩) (block_lt h.c0)).trans h.c0, (b.cell (p := ⟨P, 1, none⟩) (block_lt h.c1)).trans h.c1, (b.cell (p := ⟨P, 2, none⟩) (block_lt h.c2)).trans h.c2, frozen_kept h.f2 (block_lt h.c2) b, h.cd.kept b, h.cl.kept b, h.pm, h.pa, h.ma⟩
theorem Cb.alloc {w : World} {P M A n : Nat} {s : St} (h : Cb w P M A n s) (o : Obj) : Cb (w.alloc o) P M A n s := h.kept (balloc (Below.refl _ _) o)
theorem Cb.drewN {w : World} {P M A n : Nat} {s : St} (h : Cb w P M A n s) (q : Nat) : Cb (w.drewN q) P M A n s := h.kept (below_drewN (Below.refl _ _) q)
theorem Cb.raise {w : World} {P M A n : Nat} {s : St} (h : Cb w P M A n s) (r : Int) : Cb (w.setCell ⟨P, 2, none⟩ (.int .i64 r)) P M A n ⟨s.d, s.l, r⟩ where
  c0 := by rw [World.cell?_setCell_other _ _ _ _ (by simp)]; exact h.c0
  c1 := by rw [World.cell?_setCell_other _ _ _ _ (by simp)]; exact h.c1
  c2 := World.cell?_setCell_same _ _ _ h.c2
  f2 := by rw [World.frozen?_setCell]; exact h.f2
  cd := h.cd.far h.pm _
  cl := h.cl.far h.pa _
  pm := h.pm
  pa := h.pa
  ma := h.ma
theorem Cb.put {w : World} {P M A n : Nat} {s : St} (h : Cb w P M A n s) {t : Nat} (ht : t < n) (W i : Int) : Cb ((w.setCell ⟨M, t, none⟩ (.int .i64 W)).setCell ⟨A, t, none⟩ (.int .i64 i)) P M A n ⟨upd s.d t W, upd s.l t i, s.r⟩ where
  c0 := by rw [World.cell?_setCell_other _ _ _ _ (fun q => h.pa (by injection q with q; exact q.symm)), World.cell?_setCell_other _ _ _ _ (fun q => h.pm (by injection q with q; exact q.symm))]; exact h.c0
  c1 := by rw [World.cell?_setCell_other _ _ _ _ (fun q => h.pa (by injection q with q; exact q.symm)), World.cell?_setCell_other _ _ _ _ (fun q => h.pm (by injection q with q; exact q.symm))]; exact h.c1
  c2 := by rw [World.cell?_setCell_other _ _ _ _ (fun q => h.pa (by injection q with q; exact q.symm)), World.cell?_setCell_other _ _ _ _ (fun q => h.pm (by injection q with q; exact q.symm))]; exact h.c2
  f2 := by rw [World.frozen?_setCell, World.frozen?_setCell]; exact h.f2
  cd := (h.cd.put ht (upd_same _ _ _) (fun j _ hj => upd_other _ _ _ _ hj)).far (fun q => h.ma q.symm) _
  cl := (h.cl.far h.ma _).put ht (upd_same _ _ _) (fun j _ hj => upd_other _ _ _ _ hj)
  pm := h.pm
  pa := h.pa
  ma := h.ma

set_option maxHeartbeats 3200000 in
theorem pass_any (n : Nat) (es : List Eg) (hG : Gph n es) (k : Nat) (hk3 : k ≤ 300) (P M A : Nat) (a : Option Addr) (cap : Nat) (v0 w : World) (hE : GRow v0 a es) (hB : Below v0.heap.size v0 w)
    (hP : v0.heap.size ≤ P) (hM : v0.heap.size ≤ M) (hA : v0.heap.size ≤ A) (hC : Cb w P M A n (cst es k)) :
    Calls Tryz.prog 96 #[.pointer (some ⟨P, 0, none⟩), .slice a es.length cap] w fun e w' => e = .returned (.tuple #[]) ∧ Cb w' P M A n (cst es (k + 1)) ∧ Below v0.heap.size v0 w' := by
  have hm4 := hG.m4
  have hst := hC.raise (-1)
  have hB1 : Below v0.heap.size v0 (w.setCell ⟨P, 2, none⟩ (.int .i64 (-1))) := Below.setCell hB hP _
  obtain ⟨c0, c1, c2, f2, _, _, _, _, _⟩ := hC
  obtain ⟨m, hm⟩ : ∃ m, es.length = m := ⟨_, rfl⟩
  have hlm : Hid (es.length = m) := hm
  have hend : Hid (cst es (k + 1) = pst es (cst es k) m) := by rw [← hm]; rfl
  have hgh : Hid (Gph n es) := hG
  rw [hm] at hm4 ⊢
  clear hm hG hB
  go_enter Tryz.func96, Tryz.ntmps96
  go_wp2
  clear c0 c1 c2 f2
  go_loopw [12] (fun i wr => ∃ j : Nat, j ≤ m ∧ i = .int .i64 j ∧ Cb wr P M A n (pst es (cst es k) j) ∧ Below v0.heap.size v0 wr) (fun i _ => m - (intOf i).toNat)
  case atStart => exact ⟨0, Nat.zero_le _, rfl, hst, hB1⟩
  case round =>
    obtain ⟨j, hj, rfl, hC, hB⟩ := hrel
    clear hst hB1
    by_cases hlt : j < m
    · have q1 := hlm.out
      have G := hgh.out
      have hi := G.inn _ (eg_mem (es := es) (i := j) (by omega))
      have hx := G.wgt _ (eg_mem (es := es) (i := j) (by omega))
      obtain ⟨b, off, rfl, e1⟩ := (hE.kept hB).at (by omega)
      obtain ⟨cx, cy, cz⟩ := e1 j (by omega)
      have hjI : (j : Int) < m := by omega
      have hnext : Hid (pst es (cst es k) (j + 1) = stp (pst es (cst es k) j) j (eg es j)) := rfl
      have rf := pst_range G.inn G.wgt (by omega) hk3 (i := j) (by omega) (eg es j).f
      have rt := pst_range G.inn G.wgt (by omega) hk3 (i := j) (by omega) (eg es j).t
      obtain ⟨s1, hse⟩ : ∃ s1, pst es (cst es k) (j + 1) = s1 := ⟨_, rfl⟩
      rw [hse] at hnext
      replace hse : Hid _ := hse
      generalize pst es (cst es k) j = s at hC hnext rf rt
      obtain ⟨⟨f, t, x⟩, he⟩ : ∃ e, eg es j = e := ⟨_, rfl⟩
      rw [he] at cx cy cz hi hx hnext rf rt
      simp only at cx cy cz hi hx rf rt
      clear e1 q1 G he
      have hC1 := hC.alloc (.cells #[.int .i64 (f : Int), .int .i64 (t : Int), .int .i64 x] 99)
      have hB2 : Below v0.heap.size v0 (wr.alloc (.cells #[.int .i64 (f : Int), .int .i64 (t : Int), .int .i64 x] 99)) := hB.alloc hB.size _
      have x0 : (wr.alloc (.cells #[.int .i64 (f : Int), .int .i64 (t : Int), .int .i64 x] 99)).cell? ⟨wr.heap.size, 0, none⟩ = some (.int .i64 f) := by rw [World.cell?_alloc_at _ _ _ _ rfl]; rfl
      have x1 : (wr.alloc (.cells #[.int .i64 (f : Int), .int .i64 (t : Int), .int .i64 x] 99)).cell? ⟨wr.heap.size, 1, none⟩ = some (.int .i64 t) := by rw [World.cell?_alloc_at _ _ _ _ rfl]; rfl
      have x2 : (wr.alloc (.cells #[.int .i64 (f : Int), .int .i64 (t : Int), .int .i64 x] 99)).cell? ⟨wr.heap.size, 2, none⟩ = some (.int .i64 x) := by rw [World.cell?_alloc_at _ _ _ _ rfl]; rfl
      have hEM : wr.heap.size ≠ M := fun q => by have : M < wr.heap.size := block_lt (hC.cd.c t hi.2); omega
      have hEA : wr.heap.size ≠ A := fun q => by have : A < wr.heap.size := block_lt (hC.cl.c t hi.2); omega
      have hEP : wr.heap.size ≠ P := fun q => by have : P < wr.heap.size := block_lt hC.c2; omega
      obtain ⟨W1, hW1⟩ : ∃ W1, wr.alloc (.cells #[.int .i64 (f : Int), .int .i64 (t : Int), .int .i64 x] 99) = W1 := ⟨_, rfl⟩
      obtain ⟨E, hEE⟩ : ∃ E, wr.heap.size = E := ⟨_, rfl⟩
      rw [hW1] at hC1 hB2 x0 x1 x2
      rw [hEE] at x0 x1 x2 hEM hEA hEP
      have c0 := hC1.c0
      have c1 := hC1.c1
      have cf := hC1.cd.c f hi.1
      have ct := hC1.cd.c t hi.2
      have fI : (f : Int) < (n : Int) := by omega
      have tI : (t : Int) < (n : Int) := by omega
      obtain ⟨W, hW⟩ : ∃ W, s.d f + x = W := ⟨_, rfl⟩
      have hWw : IntKind.i64.wrap (s.d f + x) = W := by rw [← hW]; exact wrap_in (by omega)
      have hWv : wrap64 (s.d f + x) = W := by rw [← hW]; exact IntWalk.wrap64_in _ (by omega)
      clear hC hB hE
      by_cases hr : s.d t < W
      · have hs1 : Hid (s1 = ⟨upd s.d t W, upd s.l t j, (t : Int)⟩) := (by rw [hnext.out, stp_yes (e := ⟨f, t, x⟩) (by simp only; omega)]; simp only; rw [hW] : s1 = ⟨upd s.d t W, upd s.l t j, (t : Int)⟩)
        have d : decide (s.d t < W) = true := decide_eq_true hr
        have fm := hC1.cd.fz t hi.2
        have fa := hC1.cl.fz t hi.2
        have ca := hC1.cl.c t hi.2
        have hN : ∀ q : Nat, Cb ((((W1.drewN q).setCell ⟨M, t, none⟩ (.int .i64 W)).setCell ⟨A, t, none⟩ (.int .i64 (j : Int))).setCell ⟨P, 2, none⟩ (.int .i64 (t : Int))) P M A n s1 := fun q => by
          rw [hs1.out]; exact ((hC1.drewN q).put hi.2 W j).raise t
        have hBn : ∀ q : Nat, Below v0.heap.size v0 ((((W1.drewN q).setCell ⟨M, t, none⟩ (.int .i64 W)).setCell ⟨A, t, none⟩ (.int .i64 (j : Int))).setCell ⟨P, 2, none⟩ (.int .i64 (t : Int))) := fun q => Below.setCell (Below.setCell (Below.setCell (below_drewN hB2 q) hM _) hA _) hP _
        have c2 := hC1.c2
        have f2 := hC1.f2
        have pm := hC1.pm
        have pa := hC1.pa
        have ma := hC1.ma
        have pm' := Ne.symm hC1.pm
        have pa' := Ne.symm hC1.pa
        have ma' := Ne.symm hC1.ma
        replace hN : Hid _ := hN
        replace hBn : Hid _ := hBn
        replace hnext : Hid _ := hnext
        replace hW : Hid _ := hW
        clear hC1 hr
        generalize s.d f = df at *
        generalize s.d t = dt at *
        generalize s.l t = lt at *
        generalize s.r = r at *
        go_wp2
        go_quiet (fail)
        go_wp2
        go_quiet (fail)
        go_wp2
        go_region
        all_goals
          go_wp2
          go_roundw
          case rel => exact ⟨j + 1, by omega, by go_num, by rw [hse.out]; exact hN.out _, hBn.out _⟩
          case measure => simp [intOf]; omega
      · have hs1 : Hid (s1 = s) := (by rw [hnext.out, stp_no (e := ⟨f, t, x⟩) (by simp only; omega)] : s1 = s)
        have d : decide (s.d t < W) = false := decide_eq_false hr
        have hN : ∀ q : Nat, Cb (W1.drewN q) P M A n s1 := fun q => by rw [hs1.out]; exact hC1.drewN q
        replace hN : Hid _ := hN
        replace hW : Hid _ := hW
        clear hC1 hr hnext
        generalize s.d f = df at *
        generalize s.d t = dt at *
        go_wp2
        go_quiet (fail)
        go_wp2
        go_quiet (fail)
        go_wp2
        go_roundw
        case rel => exact ⟨j + 1, by omega, by go_num, by rw [hse.out]; first | exact hN.out _ | (rw [World.drewN_drewN]; exact hN.out _), by first | exact below_drewN hB2 _ | exact below_drewN (below_drewN hB2 _) _⟩
        case measure => simp [intOf]; omega
    · obtain rfl : m = j := by omega
      rw [← hend.out] at hC
      go_wp2
      go_end0
      exact ⟨rfl, hC, hB⟩

end Go.Proofs.YtjageagnclmnjabGreatDoor.Q

namespace Go.Proofs.YtjageagnclmnjabGreatDoor.Q
set_option maxRecDepth 100000
open Go.RowKit

theorem mul1 (n : Nat) (hn : n ≤ 300) (w : World) : Calls Tryz.prog 119 #[.int .u64 1, .int .u64 n] w fun e w' => e = .returned (.tuple #[.int .u64 0, .int .u64 n]) ∧ w' = w :=
  (Tryz.bits_Mul 1 n (by omega) (by omega) w).mono fun e w' ⟨he, hw⟩ => by
    refine ⟨?_, hw⟩
    rw [he, Nat.one_mul, Nat.div_eq_of_lt (by omega), Nat.mod_eq_of_lt (by omega)]
    rfl

theorem Tryz.size3 : (Tryz.prog.info? 3).map (·.size) = some 1 := by kernel_rfl

/-- so many of n places hold x -/
structure Rep (w : World) (n : Nat) (x : Int) (m : Nat) (cur : List Value) (wr : World) : Prop where
  blk : wr.heap[w.heap.size]? = some (.cells cur.toArray 3 (0, 0))
  len : cur.length = n
  val : ∀ j, j < m → cur[j]? = some (.int .i64 x)
  below : Below w.heap.size w wr

theorem splice_get {α : Type} (L : List α) (m : Nat) (cs : List α) (hm : m + cs.length ≤ L.length) (j : Nat) (hj : j < m + cs.length) : (splice L m cs)[j]? = if j < m then L[j]? else cs[j - m]? := by
  unfold splice
  by_cases h : j < m
  · rw [if_pos h, List.getElem?_append_left (by simp; omega), List.getElem?_take_of_lt h]
  · rw [if_neg h, List.getElem?_append_right (by simp; omega), List.length_take, Nat.min_eq_left (by omega), List.getElem?_append_left (by omega)]

theorem Rep.step {w : World} {n : Nat} {x : Int} {m q : Nat} {cur : List Value} {wr w2 : World} (h : Rep w n x m cur wr) (hq : m + q ≤ n)
    (hb : w2.heap[w.heap.size]? = some (.cells (splice cur m (List.replicate q (.int .i64 x))).toArray 3 (0, 0))) (hB : Below w.heap.size w w2) : Rep w n x (m + q) (splice cur m (List.replicate q (.int .i64 x))) w2 := by
  refine ⟨hb, by rw [length_splice _ _ _ (by rw [List.length_replicate, h.len]; exact hq), h.len], fun j hj => ?_, hB⟩
  rw [splice_get _ _ _ (by rw [List.length_replicate, h.len]; exact hq) j (by rw [List.length_replicate]; exact hj)]
  by_cases e : j < m
  · rw [if_pos e]; exact h.val j e
  · rw [if_neg e, List.getElem?_replicate, if_pos (by omega)]

theorem Rep.cell {w : World} {n : Nat} {x : Int} {m : Nat} {cur : List Value} {wr : World} (h : Rep w n x m cur wr) (j : Nat) (hj : j < m) : wr.cell? ⟨w.heap.size, j, none⟩ = some (.int .i64 x) := by
  simp [World.cell?, h.blk]
  simpa using h.val j hj

theorem Rep.cells {w : World} {n : Nat} {x : Int} {cur : List Value} {wr : World} (h : Rep w n x n cur wr) : Cells wr w.heap.size n fun _ => x :=
  ⟨fun j hj => h.cell j hj, fun j _ => by simp [World.frozen?, h.blk]⟩

/-- one copy more -/
theorem Rep.copy {w : World} {n : Nat} {x : Int} {m : Nat} {cur : List Value} {wr : World} (h : Rep w n x m cur wr) (ad : Addr) (sLen sCap dLen dCap q : Nat) (hd : m + dLen = n) (hq : q = Nat.min sLen dLen)
    (hsrc : ∀ j, j < q → wr.cell? (ad.add j) = some (.int .i64 x)) :
    ∃ w2 cur2, (Builtin.copy_ #[24, 24] 3 #[.slice (some ⟨w.heap.size, m, none⟩) dLen dCap, .slice (some ad) sLen sCap]).run Tryz.prog wr = .ok (.int .i64 q) w2 ∧ Rep w n x (m + q) cur2 w2 := by
  have hqd : q ≤ dLen := by rw [hq]; exact Nat.min_le_right _ _
  have hr := run_copy_row (P := Tryz.prog) wr 24 24 3 3 w.heap.size m dLen dCap ad sLen sCap cur.toArray 3 (List.replicate q (.int .i64 x)) Tryz.underlying24 Tryz.size3 h.blk (by rw [List.length_replicate]; exact hq)
    (fun j v hj => by
      rw [List.getElem?_replicate] at hj
      split at hj
      · injection hj with hj; subst hj; exact hsrc j (by assumption)
      · cases hj)
    (by rw [List.length_replicate, List.size_toArray, h.len]; omega) (fun v hv => by rw [List.eq_of_mem_replicate hv]; rfl)
  rw [List.length_replicate] at hr
  refine ⟨_, _, hr, h.step (by omega) ?_ ?_⟩
  · rw [setRow_heap wr w.heap.size _ _ 3 _ h.blk]
    simp [splice]
  · exact below_setRow h.below (Nat.le_refl _) _

theorem Rep.drew {w : World} {n : Nat} {x : Int} {m : Nat} {cur : List Value} {wr : World} (h : Rep w n x m cur wr) : Rep w n x m cur wr.drew := ⟨h.blk, h.len, h.val, h.below.drew⟩

set_option maxRecDepth 100000 in
set_option maxHeartbeats 1600000 in
theorem repeat_any (b o c n : Nat) (x : Int) (w : World) (hx : w.cell? ⟨b, o, none⟩ = some (.int .i64 x)) (h2 : n ≤ 300) :
    Calls Tryz.prog 95 #[.slice (some ⟨b, o, none⟩) 1 c, .int .i64 n] w fun e w' => e = .returned (.slice (some ⟨w.heap.size, 0, none⟩) n n) ∧ Cells w' w.heap.size n (fun _ => x) ∧ w.heap.size < w'.heap.size ∧ Below w.heap.size w w' := by
  have hmk := run_make_row' (P := Tryz.prog) 24 3 (.int .i64 0) 8 Tryz.underlying24 Tryz.info3 rfl .i64 .i64 n (by omega) (by omega)
  have hst : Rep w n x 0 (madeCells #[.int .i64 0] n).toList (w.alloc (.cells (madeCells #[.int .i64 0] n) 3)) :=
    ⟨by show (w.heap.push _)[w.heap.size]? = _; simp, by simp [madeCells], fun j h => by omega, balloc (Below.refl _ _) _⟩
  have hxa : (w.alloc (.cells (madeCells #[.int .i64 0] n) 3)).cell? ⟨b, o, none⟩ = some (.int .i64 x) := (hst.below.cell (p := ⟨b, o, none⟩) (block_lt hx)).trans hx
  obtain ⟨q0, hq0⟩ : ∃ q, q = Nat.min 1 n := ⟨_, rfl⟩
  have hq2 : q0 ≤ 1 := by rw [hq0]; exact Nat.min_le_left _ _
  have hq3 : q0 ≤ n := by rw [hq0]; exact Nat.min_le_right _ _
  have hq1 : 1 ≤ q0 ∨ q0 = n := by
    by_cases e : 1 ≤ n
    · left; rw [hq0]; exact Nat.le_of_eq (Nat.min_eq_left e).symm
    · right; omega
  obtain ⟨w2, cur2, hcp, hR⟩ := hst.copy ⟨b, o, none⟩ 1 c n n q0 (by omega) hq0 (fun j hj => by
    obtain rfl : j = 0 := by omega
    exact hxa)
  rw [Nat.zero_add] at hR
  have HQ0 : Hid (q0 = Nat.min 1 n) := hq0
  clear hq0
  clear hst hxa
  go_enter Tryz.func95, Tryz.ntmps95
  go_wp2_with (go_at_call 119; refine (mul1 n h2 _).mono ?_; rintro e w ⟨rfl, rfl⟩)
  clear hcp hx hmk hq2
  go_loopw [8] (fun i wr => ∃ (m : Nat) (cur : List Value), (1 ≤ m ∨ m = n) ∧ m ≤ n ∧ i = .int .i64 m ∧ Rep w n x m cur wr) (fun i _ => n - (intOf i).toNat)
  case atStart => exact ⟨q0, cur2, hq1, hq3, rfl, hR⟩
  case round =>
    obtain ⟨m, cur, hm1, hmn, rfl, hR⟩ := hrel
    by_cases hlt : m < n
    · obtain ⟨d, hd⟩ : ∃ d, m + d = n := ⟨n - m, by omega⟩
      obtain ⟨q, hq⟩ : ∃ q, q = Nat.min m d := ⟨_, rfl⟩
      have hq1 : 1 ≤ q ∧ q ≤ d := by
        rw [hq]
        rcases Nat.le_total m d with e | e
        · rw [show Nat.min m d = m from Nat.min_eq_left e]; omega
        · rw [show Nat.min m d = d from Nat.min_eq_right e]; omega
      have hqm : q ≤ m := by rw [hq]; exact Nat.min_le_left _ _
      obtain ⟨w3, cur3, hcp, hR3⟩ := hR.drew.copy ⟨w.heap.size, 0, none⟩ m n (n - m) (n - m) q (by omega) (by rw [hq, show n - m = d by omega]) (fun j hj => by
        rw [Addr.add_lit, Nat.zero_add]
        exact hR.drew.cell j (by omega))
      have hm3 : (m : Int) < (n : Int) := by omega
      have HQ : Hid (q = Nat.min m d) := hq
      clear hq hR
      go_wp2
      go_region
      all_goals
        go_wp2
        go_roundw
        case rel => exact ⟨m + q, cur3, by omega, by omega, by go_num, hR3⟩
        case measure => simp [intOf]; omega
    · obtain rfl : m = n := by omega
      go_wp2
      go_ret
      exact ⟨rfl, hR.cells, lt_of_block hR.blk, hR.below⟩

end Go.Proofs.YtjageagnclmnjabGreatDoor.Q
