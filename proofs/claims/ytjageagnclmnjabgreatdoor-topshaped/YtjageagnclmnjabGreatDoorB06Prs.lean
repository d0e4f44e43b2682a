/- PROVED: what strings.SplitN answers at a blank, at most six parts, for every text that there can be. what bench.Parse answers. CONDITIONS: none beyond each theorem's own. -/
import Derived.Test.YtjageagnclmnjabGreatDoorB04Shelf
import Derived.Test.YtjageagnclmnjabGreatDoorB00Pw
import Derived.Deep.OwnRows
import Derived.Laws.Strings3
import Derived.Lib.Walk
import Derived.Lib.SplitLaws
import Derived.Test.YtjageagnclmnjabGreatDoorB05Kof
namespace Go.Proofs.YtjageagnclmnjabGreatDoor.D
set_option maxRecDepth 100000
open Go.RowKit
set_option linter.unusedVariables false

abbrev bl : ByteArray := ⟨#[32]⟩
theorem index_bl (s : ByteArray) (w : World) : Calls Tryz.prog 82 #[.string s, .string bl] w fun e w' => e = .returned (.int .i64 (Lib.indexB s bl)) ∧ w' = w := by
  have e0 : Lib.indexB s bl = Lib.indexByte s.data.toList 32 := Lib.index_one _ _
  rw [e0]
  go_enter Tryz.func82, Tryz.ntmps82
  go_wp2_with (go_at_call 102; refine (Tryz.stringslite_Index_one s 32 w).mono ?_; rintro e w' ⟨rfl, rfl⟩)
  go_ret
  exact ⟨rfl, rfl⟩
theorem inf9 : (Tryz.prog.info? 9).map (fun i => (i.zero, i.size, i.bytes)) = some (some (.string ByteArray.empty), 1, 16) := by kernel_rfl

set_option maxHeartbeats 4000000 in
set_option maxRecDepth 1000000 in
theorem gensplit (s : ByteArray) (w : World) (hs : s.size ≤ 140737488355328) (N : Nat) (hN : min 6 ((s.size : Int) + 1) = (N : Int)) :
    Calls Tryz.prog 68 #[.string s, .string bl, .int .i64 0, .int .i64 6] w fun e w' =>
      e = .returned (.slice (some ⟨w.heap.size, 0, none⟩) (Lib.splitB bl 0 (N - 1) s).length N) ∧ w' = w.alloc (.cells (Lib.cellsOf (Lib.splitB bl 0 (N - 1) s) N) 9) := by
  have h1 : 1 ≤ N := by omega
  have h6 : N ≤ 6 := by omega
  have hNs : N ≤ s.size + 1 := by omega
  have hmk := run_make_row' (P := Tryz.prog) 51 9 (.string ByteArray.empty) 16 Tryz.underlying51 inf9 rfl .i64 .i64 N (by omega) (by omega)
  have hz : bl.size = 1 := rfl
  go_enter Tryz.func68, Tryz.ntmps68
  go_wp2
  clear hmk
  go_loopw [0, 10] (fun s0 s10 wr => ∃ (done : List ByteArray) (rest : ByteArray), s0 = .string rest ∧ s10 = .int .i64 done.length ∧ done.length ≤ N - 1 ∧ rest.size ≤ s.size ∧
      wr = w.alloc (.cells (Lib.cellsOf done N) 9) ∧ done ++ Lib.splitB bl 0 (N - 1 - done.length) rest = Lib.splitB bl 0 (N - 1) s) (fun _ i _ => N - 1 - (intOf i).toNat)
  case atStart => exact ⟨[], s, rfl, rfl, Nat.zero_le _, Nat.le_refl _, by rw [Lib.cellsOf_nil], rfl⟩
  case round =>
    obtain ⟨done, rest, rfl, rfl, hd, hrs, rfl, hsp⟩ := hrel
    have hnext : (Lib.cellsOf done N)[done.length]? = some (.string ByteArray.empty) := Lib.cellsOf_next (by omega)
    have HS : Hid (done ++ Lib.splitB bl 0 (N - 1 - done.length) rest = Lib.splitB bl 0 (N - 1) s) := hsp
    clear hsp
    have fin : Lib.splitB bl 0 (N - 1 - done.length) rest = [rest] → (Lib.splitB bl 0 (N - 1) s).length = done.length + 1 ∧ (Lib.cellsOf done N).setIfInBounds done.length (.string rest) = Lib.cellsOf (Lib.splitB bl 0 (N - 1) s) N := fun h => by
      have e := HS.out
      rw [h] at e
      rw [← e]
      exact ⟨by simp, Lib.cellsOf_set (by omega) rest⟩
    by_cases hlt : done.length < N - 1
    · have hltz : ((done.length : Nat) : Int) < (N : Int) - 1 := by omega
      rcases Lib.indexB_cases rest bl with hix | ⟨i, hix, hroom⟩
      · go_wp2_with (go_at_call 82; refine (index_bl rest _).mono ?_; rintro e w' ⟨rfl, rfl⟩; rw [hix])
        go_ret
        obtain ⟨f1, f2⟩ := fin (Lib.splitB_miss bl 0 _ rest hix)
        rw [f1, ← f2]
        exact ⟨by first | rfl | (congr 2 <;> omega), rfl⟩
      · rw [hz] at hroom
        have c0 : ¬ ((i : Int) < 0) := by omega
        have c1 : (0 : Int) ≤ (i : Int) := by omega
        have c2 : (i : Int) ≤ (rest.size : Int) := by omega
        have c3 : (0 : Int) ≤ (i : Int) + 1 := by omega
        have c4 : (i : Int) + 1 ≤ (rest.size : Int) := by omega
        go_wp2_with (go_at_call 82; refine (index_bl rest _).mono ?_; rintro e w' ⟨rfl, rfl⟩; rw [hix])
        go_roundw
        case rel =>
          refine ⟨done ++ [rest.extract 0 i], rest.extract (i + 1) rest.size, rfl, by simp, by simp; omega, by rw [ByteArray.size_extract]; omega, by rw [← Lib.cellsOf_set (by omega)], ?_⟩
          rw [← HS.out, show N - 1 - done.length = (N - 1 - (done.length + 1)) + 1 by omega, Lib.splitB_hit bl 0 _ rest i hix]
          simp [hz]
        case measure => simp [intOf]; omega
    · have hltz : ¬ (((done.length : Nat) : Int) < (N : Int) - 1) := by omega
      go_wp2
      go_ret
      obtain ⟨f1, f2⟩ := fin (by rw [show N - 1 - done.length = 0 by omega]; rfl)
      rw [f1, ← f2]
      exact ⟨by first | rfl | (congr 2 <;> omega), rfl⟩

theorem splitn (s : ByteArray) (w : World) (hs : s.size ≤ 140737488355328) (N : Nat) (hN : min 6 ((s.size : Int) + 1) = (N : Int)) :
    Calls Tryz.prog 55 #[.string s, .string bl, .int .i64 6] w fun e w' =>
      e = .returned (.slice (some ⟨w.heap.size, 0, none⟩) (Lib.splitB bl 0 (N - 1) s).length N) ∧ w' = w.alloc (.cells (Lib.cellsOf (Lib.splitB bl 0 (N - 1) s) N) 9) := by
  go_enter Tryz.func55, Tryz.ntmps55
  go_wp2_with (go_at_call 68; refine (gensplit s w hs N hN).mono ?_; rintro e w' ⟨rfl, hw⟩; rw [hw])
  go_ret
  exact ⟨rfl, rfl⟩
theorem wds_short (l : List UInt8) : ∀ x ∈ wds l, x.length ≤ l.length := by
  induction l with
  | nil => simp [wds]
  | cons c l ih =>
    intro x hx
    unfold wds at hx
    split at hx
    · rcases List.mem_cons.1 hx with rfl | h
      · simp
      · have := ih x h; simp; omega
    · split at hx
      · rename_i e; have := wds_ne l; rw [e] at this; simp at this
      · rename_i v vs e
        rcases List.mem_cons.1 hx with rfl | h
        · have := ih v (by rw [e]; simp); simp; omega
        · have := ih x (by rw [e]; simp [h]); simp; omega
/-- five words: the five parts, as they lie -/
theorem split_yes (s : ByteArray) (hs : s.size ≤ 140737488355328) (h5 : (wds s.data.toList).length = 5) :
    ∃ (p0 p1 p2 p3 p4 : ByteArray) (N : Nat), wds s.data.toList = [p0.data.toList, p1.data.toList, p2.data.toList, p3.data.toList, p4.data.toList] ∧ (p0.size ≤ s.size ∧ p1.size ≤ s.size ∧ p2.size ≤ s.size ∧ p3.size ≤ s.size ∧ p4.size ≤ s.size) ∧ ∀ w, Calls Tryz.prog 55 #[.string s, .string bl, .int .i64 6] w fun e w' =>
      e = .returned (.slice (some ⟨w.heap.size, 0, none⟩) 5 N) ∧ (w'.cell? ⟨w.heap.size, 0, none⟩ = some (.string p0) ∧ w'.cell? ⟨w.heap.size, 1, none⟩ = some (.string p1) ∧ w'.cell? ⟨w.heap.size, 2, none⟩ = some (.string p2) ∧ w'.cell? ⟨w.heap.size, 3, none⟩ = some (.string p3) ∧ w'.cell? ⟨w.heap.size, 4, none⟩ = some (.string p4)) ∧ Below w.heap.size w w' := by
  obtain ⟨N, hN⟩ : ∃ N : Nat, min 6 ((s.size : Int) + 1) = (N : Int) := ⟨(min 6 ((s.size : Int) + 1)).toNat, by omega⟩
  have hsz : s.size = s.data.toList.length := by rw [Array.length_toList]; rfl
  have hd := Lib.splitB_data bl 0 (N - 1) s
  have hN' : N - 1 = min 6 (s.data.toList.length + 1) - 1 := by omega
  have hw : Lib.splitK [32] 0 (N - 1) s.data.toList = wds s.data.toList := by
    rw [hN']
    rcases splitN_five s.data.toList with ⟨_, h⟩ | ⟨h, _⟩
    · exact h
    · exact absurd h5 h
  have hd' : (Lib.splitB bl 0 (N - 1) s).map (·.data.toList) = wds s.data.toList := hd.trans hw
  obtain ⟨l, hl⟩ : ∃ l, Lib.splitB bl 0 (N - 1) s = l := ⟨_, rfl⟩
  rw [hl] at hd'
  have hlen : l.length = 5 := by rw [← h5, ← hd', List.length_map]
  match l, hlen with
  | [p0, p1, p2, p3, p4], _ =>
    simp only [List.map_cons, List.map_nil] at hd'
    have hsh := wds_short s.data.toList
    rw [← hd'] at hsh
    have z : ∀ p : ByteArray, p.data.toList.length ≤ s.data.toList.length → p.size ≤ s.size := fun p h => by
      rw [hsz]
      have : p.size = p.data.toList.length := by rw [Array.length_toList]; rfl
      omega
    refine ⟨p0, p1, p2, p3, p4, N, hd'.symm, ⟨z _ (hsh _ (by simp)), z _ (hsh _ (by simp)), z _ (hsh _ (by simp)), z _ (hsh _ (by simp)), z _ (hsh _ (by simp))⟩, fun w => ?_⟩
    have c := splitn s w hs N hN
    rw [hl] at c
    refine c.mono ?_
    rintro e w' ⟨rfl, rfl⟩
    refine ⟨rfl, ?_, balloc (Below.refl _ _) _⟩
    refine ⟨?_, ?_, ?_, ?_, ?_⟩ <;> (rw [World.cell?_alloc_at _ _ _ _ rfl]; simp [Lib.cellsOf])
theorem split_no (s : ByteArray) (hs : s.size ≤ 140737488355328) (h5 : (wds s.data.toList).length ≠ 5) :
    ∃ n N : Nat, ((n : Int) != 5) = true ∧ ∀ w, Calls Tryz.prog 55 #[.string s, .string bl, .int .i64 6] w fun e w' => e = .returned (.slice (some ⟨w.heap.size, 0, none⟩) n N) ∧ Below w.heap.size w w' := by
  obtain ⟨N, hN⟩ : ∃ N : Nat, min 6 ((s.size : Int) + 1) = (N : Int) := ⟨(min 6 ((s.size : Int) + 1)).toNat, by omega⟩
  have hsz : s.size = s.data.toList.length := by rw [Array.length_toList]; rfl
  have hd := Lib.splitB_data bl 0 (N - 1) s
  have hN' : N - 1 = min 6 (s.data.toList.length + 1) - 1 := by omega
  have hw : (Lib.splitB bl 0 (N - 1) s).length ≠ 5 := by
    have := congrArg List.length hd
    rw [List.length_map] at this
    rw [this, hN']
    rcases splitN_five s.data.toList with ⟨h, _⟩ | ⟨_, h⟩
    · exact absurd h h5
    · exact h
  refine ⟨(Lib.splitB bl 0 (N - 1) s).length, N, ?_, fun w => (splitn s w hs N hN).mono ?_⟩
  · simp; omega
  · rintro e w' ⟨rfl, rfl⟩
    exact ⟨rfl, balloc (Below.refl _ _) _⟩
end Go.Proofs.YtjageagnclmnjabGreatDoor.D

namespace Go.Proofs.YtjageagnclmnjabGreatDoor.D
set_option maxRecDepth 100000
open Go.RowKit K
set_option linter.unusedVariables false

/-- what lies there while the parts are read -/
structure Ps (w : World) (P : Nat) (p0 p1 p2 p3 p4 : ByteArray) (v : World) : Prop where
  l0 : Lw w
  lw : Lw v
  c0 : v.cell? ⟨P, 0, none⟩ = some (.string p0)
  c1 : v.cell? ⟨P, 1, none⟩ = some (.string p1)
  c2 : v.cell? ⟨P, 2, none⟩ = some (.string p2)
  c3 : v.cell? ⟨P, 3, none⟩ = some (.string p3)
  c4 : v.cell? ⟨P, 4, none⟩ = some (.string p4)
  z : Rul v w.heap.size 0 0 0 0 0
  b : Below w.heap.size w v
section
variable {w v v' : World} {P : Nat} {p0 p1 p2 p3 p4 : ByteArray}
theorem Ps.kept (h : Ps w P p0 p1 p2 p3 p4 v) (g : Below v.heap.size v v') : Ps w P p0 p1 p2 p3 p4 v' := by
  have hl : P < v.heap.size := block_lt h.c0
  have c : ∀ o, v'.cell? ⟨P, o, none⟩ = v.cell? ⟨P, o, none⟩ := fun o => g.cell (p := ⟨P, o, none⟩) hl
  exact ⟨h.l0, h.lw.kept g, (c 0).trans h.c0, (c 1).trans h.c1, (c 2).trans h.c2, (c 3).trans h.c3, (c 4).trans h.c4, h.z.kept g, bthen h.b g⟩
theorem Ps.alloc (h : Ps w P p0 p1 p2 p3 p4 v) (o : Obj) : Ps w P p0 p1 p2 p3 p4 (v.alloc o) := h.kept (balloc (Below.refl _ _) _)
theorem Ps.drew (h : Ps w P p0 p1 p2 p3 p4 v) : Ps w P p0 p1 p2 p3 p4 v.drew := h.kept (below_drewN (Below.refl _ _) 1)
theorem Ps.five (h : Ps w P p0 p1 p2 p3 p4 v) : v.cell? ⟨P, 0, none⟩ = some (.string p0) ∧ v.cell? ⟨P, 1, none⟩ = some (.string p1) ∧ v.cell? ⟨P, 2, none⟩ = some (.string p2) ∧ v.cell? ⟨P, 3, none⟩ = some (.string p3) ∧ v.cell? ⟨P, 4, none⟩ = some (.string p4) := ⟨h.c0, h.c1, h.c2, h.c3, h.c4⟩
theorem Ps.far {D o : Nat} (h : Ps w P p0 p1 p2 p3 p4 v) (h1 : D ≠ P) (h2 : w.heap.size < D) (x : Value) : Ps w P p0 p1 p2 p3 p4 (v.setCell ⟨D, o, none⟩ x) := by
  have b := Below.setCell h.b (p := ⟨D, o, none⟩) (Nat.le_of_lt h2) x
  have c : ∀ k, (v.setCell ⟨D, o, none⟩ x).cell? ⟨P, k, none⟩ = v.cell? ⟨P, k, none⟩ := fun k => World.cell?_setCell_other _ _ _ _ (fun p => h1 (by injection p))
  exact ⟨h.l0, h.l0.kept b, (c 0).trans h.c0, (c 1).trans h.c1, (c 2).trans h.c2, (c 3).trans h.c3, (c 4).trans h.c4, h.z.far (by omega) x, b⟩
theorem Ps.put {D : Nat} (h : Ps w P p0 p1 p2 p3 p4 v) (h1 : D ≠ P) (h2 : w.heap.size < D) (x0 x1 x2 x3 x4 : Value) : Ps w P p0 p1 p2 p3 p4 (((((v.setCell ⟨D, 0, none⟩ x0).setCell ⟨D, 1, none⟩ x1).setCell ⟨D, 2, none⟩ x2).setCell ⟨D, 3, none⟩ x3).setCell ⟨D, 4, none⟩ x4) :=
  ((((h.far h1 h2 x0).far h1 h2 x1).far h1 h2 x2).far h1 h2 x3).far h1 h2 x4
theorem Ps.new (h : Ps w (w.heap.size + 1) p0 p1 p2 p3 p4 v) : v.heap.size ≠ w.heap.size + 1 ∧ w.heap.size < v.heap.size := by
  have := block_lt h.c0
  exact ⟨by simp only at this; omega, by simp only at this; omega⟩
end

set_option maxRecDepth 100000 in
set_option maxHeartbeats 3200000 in
theorem parse_no (s : ByteArray) (hs : s.size ≤ 140737488355328) (h5 : (wds s.data.toList).length ≠ 5) (w : World) :
    Calls Tryz.prog 43 #[.string s] w fun e w' => e = .returned (.tuple #[.agg #[.int .i64 0, .int .i64 0, .int .i64 0, .int .i64 0, .int .i64 0], .int .i64 1]) ∧ Below w.heap.size w w' := by
  obtain ⟨n, N, hn, c⟩ := split_no s hs h5
  have Z := Rul.new w _ rfl 0 0 0 0 0
  have B : Below w.heap.size w (w.alloc (.cells #[.int .i64 0, .int .i64 0, .int .i64 0, .int .i64 0, .int .i64 0] 69)) := balloc (Below.refl _ _) _
  go_enter Tryz.func43, Tryz.ntmps43
  go_wp2_with (go_at_call 55; refine (c _).mono ?_; clear c; rintro x v ⟨rfl, b⟩; replace Z := Z.kept b; replace B := bthen B b; obtain ⟨z0, z1, z2, z3, z4, y0, y1, y2, y3, y4⟩ := id Z)
  refine bodyPost_ret (v := .tuple #[.agg #[.int .i64 0, .int .i64 0, .int .i64 0, .int .i64 0, .int .i64 0], .int .i64 1]) ?_ rfl ⟨rfl, ?_⟩
  · simp [results, Tryz.results43, go_sem, z0, z1, z2, z3, z4]
  · repeat (with_reducible refine Below.setCell ?_ (by simp) _)
    exact B

set_option maxRecDepth 100000 in
set_option maxHeartbeats 6400000 in
theorem parse_of (s p0 p1 p2 p3 p4 u : ByteArray) (N : Nat) (K0 K1 M0 M1 M2 E : Int) (w : World) (L : Lw w)
    (c : ∀ w, Calls Tryz.prog 55 #[.string s, .string bl, .int .i64 6] w fun e w' => e = .returned (.slice (some ⟨w.heap.size, 0, none⟩) 5 N) ∧ (w'.cell? ⟨w.heap.size, 0, none⟩ = some (.string p0) ∧ w'.cell? ⟨w.heap.size, 1, none⟩ = some (.string p1) ∧ w'.cell? ⟨w.heap.size, 2, none⟩ = some (.string p2) ∧ w'.cell? ⟨w.heap.size, 3, none⟩ = some (.string p3) ∧ w'.cell? ⟨w.heap.size, 4, none⟩ = some (.string p4)) ∧ Below w.heap.size w w')
    (k0 : ∀ v, Lw v → Calls Tryz.prog 56 #[.string p0] v fun e w' => e = .returned (.int .i64 K0) ∧ w' = v)
    (k1 : ∀ v, Lw v → Calls Tryz.prog 56 #[.string p1] v fun e w' => e = .returned (.int .i64 K1) ∧ w' = v)
    (m0 : ∀ v, Lw v → Calls Tryz.prog 57 #[.string p2] v fun e w' => e = .returned (.int .i64 M0) ∧ Below v.heap.size v w')
    (m1 : ∀ v, Lw v → Calls Tryz.prog 57 #[.string p3] v fun e w' => e = .returned (.int .i64 M1) ∧ Below v.heap.size v w')
    (m2 : ∀ v, Lw v → Calls Tryz.prog 57 #[.string p4] v fun e w' => e = .returned (.int .i64 M2) ∧ Below v.heap.size v w')
    (pr : ∀ v, Lw v → Calls Tryz.prog 58 #[.agg #[.int .i64 K0, .int .i64 K1, .int .i64 M0, .int .i64 M1, .int .i64 M2]] v fun e w' => e = .returned (.tuple #[.string u, .int .i64 E]) ∧ Below v.heap.size v w')
    (t0 t1 : Bool) (h0 : (E != 0) = t0) (h1 : (u.toList == s.toList) = !t1) :
    Calls Tryz.prog 43 #[.string s] w fun e w' => e = .returned (if t0 || t1 then .tuple #[.agg #[.int .i64 0, .int .i64 0, .int .i64 0, .int .i64 0, .int .i64 0], .int .i64 1] else .tuple #[.agg #[.int .i64 K0, .int .i64 K1, .int .i64 M0, .int .i64 M1, .int .i64 M2], .int .i64 0]) ∧ Below w.heap.size w w' := by
  have Z := Rul.new w _ rfl 0 0 0 0 0
  have B : Below w.heap.size w (w.alloc (.cells #[.int .i64 0, .int .i64 0, .int .i64 0, .int .i64 0, .int .i64 0] 69)) := balloc (Below.refl _ _) _
  have hP : (w.alloc (.cells #[.int .i64 0, .int .i64 0, .int .i64 0, .int .i64 0, .int .i64 0] 69)).heap.size = w.heap.size + 1 := by simp
  have L0 := L
  replace L := L.kept B
  go_enter Tryz.func43, Tryz.ntmps43
  go_wp2_with (go_at_call 55; refine (c _).mono ?_; clear c; rintro x v ⟨rfl, ⟨a0, a1, a2, a3, a4⟩, b⟩; rw [hP] at a0 a1 a2 a3 a4; have T : Ps w (w.heap.size + 1) p0 p1 p2 p3 p4 v := ⟨L0, L.kept b, a0, a1, a2, a3, a4, Z.kept b, bthen B b⟩; clear a0 a1 a2 a3 a4 Z L B b)
  go_region_held3 (fun w' => w'.cell? ⟨w.heap.size + 1, 0, none⟩ = some (.string p0) ∧ w'.cell? ⟨w.heap.size + 1, 1, none⟩ = some (.string p1) ∧ w'.cell? ⟨w.heap.size + 1, 2, none⟩ = some (.string p2) ∧ w'.cell? ⟨w.heap.size + 1, 3, none⟩ = some (.string p3) ∧ w'.cell? ⟨w.heap.size + 1, 4, none⟩ = some (.string p4))
    (first | with_reducible exact (T.put hne.1 hne.2 _ _ _ _ _).five | with_reducible exact T.five | with_reducible exact T.drew.five | with_reducible exact (T.drewN 1).five | with_reducible exact (T.alloc _).five | with_reducible exact (T.drew.alloc _).five | with_reducible exact ((T.drewN 1).alloc _).five | with_reducible exact (T.alloc _).drew.five | with_reducible exact ((T.alloc _).drewN 1).five)
    (first
    | (go_at_call 56; with_reducible refine (k0 _ (by first | with_reducible exact T.lw | with_reducible exact T.drew.lw | with_reducible exact (T.drewN 1).lw | with_reducible exact (T.alloc _).lw | with_reducible exact (T.drew.alloc _).lw | with_reducible exact ((T.drewN 1).alloc _).lw | with_reducible exact (T.alloc _).drew.lw | with_reducible exact ((T.alloc _).drewN 1).lw)).mono ?_; rintro x v1 ⟨rfl, rfl⟩)
    | (go_at_call 56; with_reducible refine (k1 _ (by first | with_reducible exact T.lw | with_reducible exact T.drew.lw | with_reducible exact (T.drewN 1).lw | with_reducible exact (T.alloc _).lw | with_reducible exact (T.drew.alloc _).lw | with_reducible exact ((T.drewN 1).alloc _).lw | with_reducible exact (T.alloc _).drew.lw | with_reducible exact ((T.alloc _).drewN 1).lw)).mono ?_; rintro x v1 ⟨rfl, rfl⟩)
    | (go_at_call 57; with_reducible refine (m0 _ (by first | with_reducible exact T.lw | with_reducible exact T.drew.lw | with_reducible exact (T.drewN 1).lw | with_reducible exact (T.alloc _).lw | with_reducible exact (T.drew.alloc _).lw | with_reducible exact ((T.drewN 1).alloc _).lw | with_reducible exact (T.alloc _).drew.lw | with_reducible exact ((T.alloc _).drewN 1).lw)).mono ?_; rintro x v2 ⟨rfl, b⟩; (first | (with_reducible have R := (Rul.new _ _ rfl 0 0 0 0 0).kept b; have hne := T.new) | (with_reducible have R := (Rul.new _ _ rfl 0 0 0 0 0).drew.kept b; have hne := T.new) | (with_reducible replace R := Rul.kept R b) | (with_reducible replace R := Rul.kept R.drew b) | skip); (first | (with_reducible replace T := Ps.kept T b) | (with_reducible replace T := Ps.kept T.drew b) | (with_reducible replace T := Ps.kept (T.drewN 1) b) | (with_reducible replace T := Ps.kept (T.alloc _) b) | (with_reducible replace T := Ps.kept (T.drew.alloc _) b) | (with_reducible replace T := Ps.kept ((T.drewN 1).alloc _) b) | (with_reducible replace T := Ps.kept (T.alloc _).drew b) | (with_reducible replace T := Ps.kept ((T.alloc _).drewN 1) b)); clear b)
    | (go_at_call 57; with_reducible refine (m1 _ (by first | with_reducible exact T.lw | with_reducible exact T.drew.lw | with_reducible exact (T.drewN 1).lw | with_reducible exact (T.alloc _).lw | with_reducible exact (T.drew.alloc _).lw | with_reducible exact ((T.drewN 1).alloc _).lw | with_reducible exact (T.alloc _).drew.lw | with_reducible exact ((T.alloc _).drewN 1).lw)).mono ?_; rintro x v3 ⟨rfl, b⟩; (first | (with_reducible have R := (Rul.new _ _ rfl 0 0 0 0 0).kept b; have hne := T.new) | (with_reducible have R := (Rul.new _ _ rfl 0 0 0 0 0).drew.kept b; have hne := T.new) | (with_reducible replace R := Rul.kept R b) | (with_reducible replace R := Rul.kept R.drew b) | skip); (first | (with_reducible replace T := Ps.kept T b) | (with_reducible replace T := Ps.kept T.drew b) | (with_reducible replace T := Ps.kept (T.drewN 1) b) | (with_reducible replace T := Ps.kept (T.alloc _) b) | (with_reducible replace T := Ps.kept (T.drew.alloc _) b) | (with_reducible replace T := Ps.kept ((T.drewN 1).alloc _) b) | (with_reducible replace T := Ps.kept (T.alloc _).drew b) | (with_reducible replace T := Ps.kept ((T.alloc _).drewN 1) b)); clear b)
    | (go_at_call 57; with_reducible refine (m2 _ (by first | with_reducible exact T.lw | with_reducible exact T.drew.lw | with_reducible exact (T.drewN 1).lw | with_reducible exact (T.alloc _).lw | with_reducible exact (T.drew.alloc _).lw | with_reducible exact ((T.drewN 1).alloc _).lw | with_reducible exact (T.alloc _).drew.lw | with_reducible exact ((T.alloc _).drewN 1).lw)).mono ?_; rintro x v4 ⟨rfl, b⟩; (first | (with_reducible have R := (Rul.new _ _ rfl 0 0 0 0 0).kept b; have hne := T.new) | (with_reducible have R := (Rul.new _ _ rfl 0 0 0 0 0).drew.kept b; have hne := T.new) | (with_reducible replace R := Rul.kept R b) | (with_reducible replace R := Rul.kept R.drew b) | skip); (first | (with_reducible replace T := Ps.kept T b) | (with_reducible replace T := Ps.kept T.drew b) | (with_reducible replace T := Ps.kept (T.drewN 1) b) | (with_reducible replace T := Ps.kept (T.alloc _) b) | (with_reducible replace T := Ps.kept (T.drew.alloc _) b) | (with_reducible replace T := Ps.kept ((T.drewN 1).alloc _) b) | (with_reducible replace T := Ps.kept (T.alloc _).drew b) | (with_reducible replace T := Ps.kept ((T.alloc _).drewN 1) b)); (try obtain ⟨r0, r1, r2, r3, r4, g0, g1, g2, g3, g4⟩ := id R); clear b))
  all_goals
    first
    | (with_reducible have X := R.put K0 K1 M0 M1 M2; with_reducible have T5 := T.put hne.1 hne.2 (.int .i64 K0) (.int .i64 K1) (.int .i64 M0) (.int .i64 M1) (.int .i64 M2); have hq := hne.2; clear r0 r1 r2 r3 r4 g0 g1 g2 g3 g4 R hne)
    | (have X := Rul.new v4 _ rfl K0 K1 M0 M1 M2; have T5 := T.alloc (.cells #[.int .i64 K0, .int .i64 K1, .int .i64 M0, .int .i64 M1, .int .i64 M2] 69); have hq := T.new.2)
    obtain ⟨x0, x1, x2, x3, x4, -, -, -, -, -⟩ := id X
    clear T k0 k1 m0 m1 m2
    cases t0
    case' false => cases t1
    all_goals
      go_wp2_with (go_at_call 58; with_reducible refine (pr _ T5.lw).mono ?_; clear pr x0 x1 x2 x3 x4; rintro x v6 ⟨rfl, b⟩; replace X := X.kept b; replace T5 := T5.kept b; clear b; obtain ⟨x0, x1, x2, x3, x4, -, -, -, -, -⟩ := id X; obtain ⟨z0, z1, z2, z3, z4, y0, y1, y2, y3, y4⟩ := id T5.z)
      first
      | refine bodyPost_ret (v := .tuple #[.agg #[.int .i64 K0, .int .i64 K1, .int .i64 M0, .int .i64 M1, .int .i64 M2], .int .i64 0]) ?_ rfl ⟨rfl, ?_⟩
      | refine bodyPost_ret (v := .tuple #[.agg #[.int .i64 0, .int .i64 0, .int .i64 0, .int .i64 0, .int .i64 0], .int .i64 1]) ?_ rfl ⟨rfl, ?_⟩
      · simp [results, Tryz.results43, go_sem, z0, z1, z2, z3, z4]
      · repeat (with_reducible refine Below.setCell ?_ (by simp) _)
        exact T5.b
end Go.Proofs.YtjageagnclmnjabGreatDoor.D
