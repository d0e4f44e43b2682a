/- PROVED: what strings.SplitN answers at a blank, at most six parts, for every text that there can be. CONDITIONS: none beyond each theorem's own. -/
import Derived.Test.YtjageagnclmnjaaDoorShelf
import Derived.Test.YtjageagnclmnjaaDoorMem
import Derived.Test.YtjageagnclmnjaaDoorPw
import Derived.Deep.OwnRows
import Derived.Laws.Strings3
import Derived.Lib.Walk
import Derived.Lib.SplitLaws
namespace Go.Proofs.YtjageagnclmnjaaDoor.D
open Go.RowKit
set_option linter.unusedVariables false

abbrev bl : ByteArray := ⟨#[32]⟩
theorem index_bl (s : ByteArray) (w : World) : Calls Tryd.prog 40 #[.string s, .string bl] w fun e w' => e = .returned (.int .i64 (Lib.indexB s bl)) ∧ w' = w := by
  have e0 : Lib.indexB s bl = Lib.indexByte s.data.toList 32 := Lib.index_one _ _
  rw [e0]
  go_enter Tryd.func40, Tryd.ntmps40
  go_wp2_with (go_at_call 60; refine (Tryd.stringslite_Index_one s 32 w).mono ?_; rintro e w' ⟨rfl, rfl⟩)
  go_ret
  exact ⟨rfl, rfl⟩
theorem inf9 : (Tryd.prog.info? 9).map (fun i => (i.zero, i.size, i.bytes)) = some (some (.string ByteArray.empty), 1, 16) := by kernel_rfl

set_option maxHeartbeats 4000000 in
set_option maxRecDepth 1000000 in
theorem gensplit (s : ByteArray) (w : World) (hs : s.size ≤ 140737488355328) (N : Nat) (hN : min 6 ((s.size : Int) + 1) = (N : Int)) :
    Calls Tryd.prog 24 #[.string s, .string bl, .int .i64 0, .int .i64 6] w fun e w' =>
      e = .returned (.slice (some ⟨w.heap.size, 0, none⟩) (Lib.splitB bl 0 (N - 1) s).length N) ∧ w' = w.alloc (.cells (Lib.cellsOf (Lib.splitB bl 0 (N - 1) s) N) 9) := by
  have h1 : 1 ≤ N := by omega
  have h6 : N ≤ 6 := by omega
  have hNs : N ≤ s.size + 1 := by omega
  have hmk := run_make_row' (P := Tryd.prog) 35 9 (.string ByteArray.empty) 16 Tryd.underlying35 inf9 rfl .i64 .i64 N (by omega) (by omega)
  have hz : bl.size = 1 := rfl
  go_enter Tryd.func24, Tryd.ntmps24
  go_wp2
  clear hmk
  go_loopw [0, 10] (fun s0 s10 wr => ∃ (done : List ByteArray) (rest : ByteArray), s0 = .string rest ∧ s10 = .int .i64 done.length ∧ done.length ≤ N - 1 ∧ rest.size ≤ s.size ∧
      wr = w.alloc (.cells (Lib.cellsOf done N) 9) ∧ done ++ Lib.splitB bl 0 (N - 1 - done.length) rest = Lib.splitB bl 0 (N - 1) s) (fun _ i _ => N - 1 - (intOf i).toNat)
  case atStart => exact ⟨[], s, rfl, rfl, Nat.zero_le _, Nat.le_refl _, by rw [Lib.cellsOf_nil], rfl⟩
  case round =>
    obtain ⟨done, rest, rfl, rfl, hd, hrs, rfl, hsp⟩ := hrel
    have hnext : (Lib.cellsOf done N)[done.length]? = some (.string ByteArray.empty) := Lib.cellsOf_next (by omega)
    have HS : Hid (done ++ Lib.splitB bl 0 (N - 1 - done.length) rest = Lib.splitB bl 0 (N - 1) s) := hsp
    clear hsp
    have fin : Lib.splitB bl 0 (N - 1 - done.length) rest = [rest] → (Lib.splitB bl 0 (N - 1) s).length = done.length + 1 ∧ (Lib.cellsOf done N).setIfInBounds done.length (.string rest) = Lib.cellsOf (Lib.splitB bl 0 (N - 1) s) N := fun h => by
      have e := HS.out
      rw [h] at e
      rw [← e]
      exact ⟨by simp, Lib.cellsOf_set (by omega) rest⟩
    by_cases hlt : done.length < N - 1
    · have hltz : ((done.length : Nat) : Int) < (N : Int) - 1 := by omega
      rcases Lib.indexB_cases rest bl with hix | ⟨i, hix, hroom⟩
      · go_wp2_with (go_at_call 40; refine (index_bl rest _).mono ?_; rintro e w' ⟨rfl, rfl⟩; rw [hix])
        go_ret
        obtain ⟨f1, f2⟩ := fin (Lib.splitB_miss bl 0 _ rest hix)
        rw [f1, ← f2]
        exact ⟨by first | rfl | (congr 2 <;> omega), rfl⟩
      · rw [hz] at hroom
        have c0 : ¬ ((i : Int) < 0) := by omega
        have c1 : (0 : Int) ≤ (i : Int) := by omega
        have c2 : (i : Int) ≤ (rest.size : Int) := by omega
        have c3 : (0 : Int) ≤ (i : Int) + 1 := by omega
        have c4 : (i : Int) + 1 ≤ (rest.size : Int) := by omega
        go_wp2_with (go_at_call 40; refine (index_bl rest _).mono ?_; rintro e w' ⟨rfl, rfl⟩; rw [hix])
        go_roundw
        case rel =>
          refine ⟨done ++ [rest.extract 0 i], rest.extract (i + 1) rest.size, rfl, by simp, by simp; omega, by rw [ByteArray.size_extract]; omega, by rw [← Lib.cellsOf_set (by omega)], ?_⟩
          rw [← HS.out, show N - 1 - done.length = (N - 1 - (done.length + 1)) + 1 by omega, Lib.splitB_hit bl 0 _ rest i hix]
          simp [hz]
        case measure => simp [intOf]; omega
    · have hltz : ¬ (((done.length : Nat) : Int) < (N : Int) - 1) := by omega
      go_wp2
      go_ret
      obtain ⟨f1, f2⟩ := fin (by rw [show N - 1 - done.length = 0 by omega]; rfl)
      rw [f1, ← f2]
      exact ⟨by first | rfl | (congr 2 <;> omega), rfl⟩

theorem splitn (s : ByteArray) (w : World) (hs : s.size ≤ 140737488355328) (N : Nat) (hN : min 6 ((s.size : Int) + 1) = (N : Int)) :
    Calls Tryd.prog 15 #[.string s, .string bl, .int .i64 6] w fun e w' =>
      e = .returned (.slice (some ⟨w.heap.size, 0, none⟩) (Lib.splitB bl 0 (N - 1) s).length N) ∧ w' = w.alloc (.cells (Lib.cellsOf (Lib.splitB bl 0 (N - 1) s) N) 9) := by
  go_enter Tryd.func15, Tryd.ntmps15
  go_wp2_with (go_at_call 24; refine (gensplit s w hs N hN).mono ?_; rintro e w' ⟨rfl, hw⟩; rw [hw])
  go_ret
  exact ⟨rfl, rfl⟩
theorem wds_short (l : List UInt8) : ∀ x ∈ wds l, x.length ≤ l.length := by
  induction l with
  | nil => simp [wds]
  | cons c l ih =>
    intro x hx
    unfold wds at hx
    split at hx
    · rcases List.mem_cons.1 hx with rfl | h
      · simp
      · have := ih x h; simp; omega
    · split at hx
      · rename_i e; have := wds_ne l; rw [e] at this; simp at this
      · rename_i v vs e
        rcases List.mem_cons.1 hx with rfl | h
        · have := ih v (by rw [e]; simp); simp; omega
        · have := ih x (by rw [e]; simp [h]); simp; omega
/-- five words: the five parts, as they lie -/
theorem split_yes (s : ByteArray) (hs : s.size ≤ 140737488355328) (h5 : (wds s.data.toList).length = 5) :
    ∃ (p0 p1 p2 p3 p4 : ByteArray) (N : Nat), wds s.data.toList = [p0.data.toList, p1.data.toList, p2.data.toList, p3.data.toList, p4.data.toList] ∧ (p0.size ≤ s.size ∧ p1.size ≤ s.size ∧ p2.size ≤ s.size ∧ p3.size ≤ s.size ∧ p4.size ≤ s.size) ∧ ∀ w, Calls Tryd.prog 15 #[.string s, .string bl, .int .i64 6] w fun e w' =>
      e = .returned (.slice (some ⟨w.heap.size, 0, none⟩) 5 N) ∧ (w'.cell? ⟨w.heap.size, 0, none⟩ = some (.string p0) ∧ w'.cell? ⟨w.heap.size, 1, none⟩ = some (.string p1) ∧ w'.cell? ⟨w.heap.size, 2, none⟩ = some (.string p2) ∧ w'.cell? ⟨w.heap.size, 3, none⟩ = some (.string p3) ∧ w'.cell? ⟨w.heap.size, 4, none⟩ = some (.string p4)) ∧ Below w.heap.size w w' := by
  obtain ⟨N, hN⟩ : ∃ N : Nat, min 6 ((s.size : Int) + 1) = (N : Int) := ⟨(min 6 ((s.size : Int) + 1)).toNat, by omega⟩
  have hsz : s.size = s.data.toList.length := by rw [Array.length_toList]; rfl
  have hd := Lib.splitB_data bl 0 (N - 1) s
  have hN' : N - 1 = min 6 (s.data.toList.length + 1) - 1 := by omega
  have hw : Lib.splitK [32] 0 (N - 1) s.data.toList = wds s.data.toList := by
    rw [hN']
    rcases splitN_five s.data.toList with ⟨_, h⟩ | ⟨h, _⟩
    · exact h
    · exact absurd h5 h
  have hd' : (Lib.splitB bl 0 (N - 1) s).map (·.data.toList) = wds s.data.toList := hd.trans hw
  obtain ⟨l, hl⟩ : ∃ l, Lib.splitB bl 0 (N - 1) s = l := ⟨_, rfl⟩
  rw [hl] at hd'
  have hlen : l.length = 5 := by rw [← h5, ← hd', List.length_map]
  match l, hlen with
  | [p0, p1, p2, p3, p4], _ =>
    simp only [List.map_cons, List.map_nil] at hd'
    have hsh := wds_short s.data.toList
    rw [← hd'] at hsh
    have z : ∀ p : ByteArray, p.data.toList.length ≤ s.data.toList.length → p.size ≤ s.size := fun p h => by
      rw [hsz]
      have : p.size = p.data.toList.length := by rw [Array.length_toList]; rfl
      omega
    refine ⟨p0, p1, p2, p3, p4, N, hd'.symm, ⟨z _ (hsh _ (by simp)), z _ (hsh _ (by simp)), z _ (hsh _ (by simp)), z _ (hsh _ (by simp)), z _ (hsh _ (by simp))⟩, fun w => ?_⟩
    have c := splitn s w hs N hN
    rw [hl] at c
    refine c.mono ?_
    rintro e w' ⟨rfl, rfl⟩
    refine ⟨rfl, ?_, balloc (Below.refl _ _) _⟩
    refine ⟨?_, ?_, ?_, ?_, ?_⟩ <;> (rw [World.cell?_alloc_at _ _ _ _ rfl]; simp [Lib.cellsOf])
theorem split_no (s : ByteArray) (hs : s.size ≤ 140737488355328) (h5 : (wds s.data.toList).length ≠ 5) :
    ∃ n N : Nat, ((n : Int) != 5) = true ∧ ∀ w, Calls Tryd.prog 15 #[.string s, .string bl, .int .i64 6] w fun e w' => e = .returned (.slice (some ⟨w.heap.size, 0, none⟩) n N) ∧ Below w.heap.size w w' := by
  obtain ⟨N, hN⟩ : ∃ N : Nat, min 6 ((s.size : Int) + 1) = (N : Int) := ⟨(min 6 ((s.size : Int) + 1)).toNat, by omega⟩
  have hsz : s.size = s.data.toList.length := by rw [Array.length_toList]; rfl
  have hd := Lib.splitB_data bl 0 (N - 1) s
  have hN' : N - 1 = min 6 (s.data.toList.length + 1) - 1 := by omega
  have hw : (Lib.splitB bl 0 (N - 1) s).length ≠ 5 := by
    have := congrArg List.length hd
    rw [List.length_map] at this
    rw [this, hN']
    rcases splitN_five s.data.toList with ⟨h, _⟩ | ⟨_, h⟩
    · exact absurd h h5
    · exact h
  refine ⟨(Lib.splitB bl 0 (N - 1) s).length, N, ?_, fun w => (splitn s w hs N hN).mono ?_⟩
  · simp; omega
  · rintro e w' ⟨rfl, rfl⟩
    exact ⟨rfl, balloc (Below.refl _ _) _⟩
end Go.Proofs.YtjageagnclmnjaaDoor.D
