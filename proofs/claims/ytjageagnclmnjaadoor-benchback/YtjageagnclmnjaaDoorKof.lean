/- PROVED: what bench.kindOf and bench.numberOf answer. CONDITIONS: none beyond each theorem's own. -/
import Derived.Test.YtjageagnclmnjaaDoorLw
import Derived.Test.YtjageagnclmnjaaDoorPw
import Derived.Test.YtjageagnclmnjaaDoorShelf
namespace Go.Proofs.YtjageagnclmnjaaDoor.D
open Go.RowKit
set_option linter.unusedVariables false

theorem nx0 (a b c d : ByteArray) (w : World) : (Instr.index 33 (.agg #[.string a, .string b, .string c, .string d]) (.int .i64 0)).run Tryd.prog w = .ok (.string a) w := by kernel_rfl
theorem nx1 (a b c d : ByteArray) (w : World) : (Instr.index 33 (.agg #[.string a, .string b, .string c, .string d]) (.int .i64 1)).run Tryd.prog w = .ok (.string b) w := by kernel_rfl
theorem nx2 (a b c d : ByteArray) (w : World) : (Instr.index 33 (.agg #[.string a, .string b, .string c, .string d]) (.int .i64 2)).run Tryd.prog w = .ok (.string c) w := by kernel_rfl
theorem nx3 (a b c d : ByteArray) (w : World) : (Instr.index 33 (.agg #[.string a, .string b, .string c, .string d]) (.int .i64 3)).run Tryd.prog w = .ok (.string d) w := by kernel_rfl
attribute [local go_sem] nx0 nx1 nx2 nx3
set_option maxRecDepth 100000 in
set_option maxHeartbeats 1600000 in
theorem kindof_of (p n0 n1 n2 n3 : ByteArray) (w : World) (c0 : w.cell? ⟨0, 0, none⟩ = some (.string n0)) (c1 : w.cell? ⟨0, 1, none⟩ = some (.string n1)) (c2 : w.cell? ⟨0, 2, none⟩ = some (.string n2)) (c3 : w.cell? ⟨0, 3, none⟩ = some (.string n3))
    (t0 t1 t2 t3 : Bool) (h0 : (n0.toList == p.toList) = t0) (h1 : (n1.toList == p.toList) = t1) (h2 : (n2.toList == p.toList) = t2) (h3 : (n3.toList == p.toList) = t3) :
    Calls Tryd.prog 16 #[.string p] w fun e w' => e = .returned (.int .i64 (if t0 then 0 else if t1 then 1 else if t2 then 2 else if t3 then 3 else 0)) ∧ w' = w := by
  go_enter Tryd.func16, Tryd.ntmps16
  go_wp2
  go_loopw [6] (fun i wr => wr = w ∧ (i = .int .i64 0 ∨ i = .int .i64 1 ∧ t0 = false ∨ i = .int .i64 2 ∧ t0 = false ∧ t1 = false ∨ i = .int .i64 3 ∧ t0 = false ∧ t1 = false ∧ t2 = false ∨ i = .int .i64 4 ∧ t0 = false ∧ t1 = false ∧ t2 = false ∧ t3 = false)) (fun i _ => 4 - (intOf i).toNat)
  case atStart => exact ⟨rfl, .inl rfl⟩
  case round =>
    obtain ⟨rfl, rfl | ⟨rfl, rfl⟩ | ⟨rfl, rfl, rfl⟩ | ⟨rfl, rfl, rfl, rfl⟩ | ⟨rfl, rfl, rfl, rfl, rfl⟩⟩ := hrel
    · clear h1 h2 h3
      cases t0
      · go_wp2
        go_roundw
        case rel => exact ⟨by first | rfl | trivial, .inr (.inl ⟨rfl, by first | rfl | trivial⟩)⟩
        case measure => simp [intOf]
      · go_wp2
        go_ret
        exact ⟨rfl, rfl⟩
    · clear h0 h2 h3
      cases t1
      · go_wp2
        go_roundw
        case rel => exact ⟨by first | rfl | trivial, .inr (.inr (.inl ⟨rfl, by first | rfl | trivial, by first | rfl | trivial⟩))⟩
        case measure => simp [intOf]
      · go_wp2
        go_ret
        exact ⟨rfl, rfl⟩
    · clear h0 h1 h3
      cases t2
      · go_wp2
        go_roundw
        case rel => exact ⟨by first | rfl | trivial, .inr (.inr (.inr (.inl ⟨rfl, by first | rfl | trivial, by first | rfl | trivial, by first | rfl | trivial⟩)))⟩
        case measure => simp [intOf]
      · go_wp2
        go_ret
        exact ⟨rfl, rfl⟩
    · clear h0 h1 h2
      cases t3
      · go_wp2
        go_roundw
        case rel => exact ⟨by first | rfl | trivial, .inr (.inr (.inr (.inr ⟨rfl, by first | rfl | trivial, by first | rfl | trivial, by first | rfl | trivial, by first | rfl | trivial⟩)))⟩
        case measure => simp [intOf]
      · go_wp2
        go_ret
        exact ⟨rfl, rfl⟩
    · clear h0 h1 h2 h3
      go_wp2
      go_ret
      exact ⟨rfl, rfl⟩
theorem same_is (n p : ByteArray) : (n.toList == p.toList) = decide (p.data.toList = n.data.toList) := by
  rw [Lib.toList_data, Lib.toList_data]
  by_cases h : p.data.toList = n.data.toList
  · rw [h]; simp
  · rw [decide_eq_false h]
    simp only [beq_eq_false_iff_ne, ne_eq]
    exact fun e => h e.symm
theorem kindof (p : ByteArray) (w : World) (L : Lw w) : Calls Tryd.prog 16 #[.string p] w fun e w' => e = .returned (.int .i64 (kd p.data.toList)) ∧ w' = w := by
  obtain ⟨c0, c1, c2, c3⟩ := L.cell
  have c := kindof_of p _ _ _ _ w c0 c1 c2 c3 _ _ _ _ (same_is _ _) (same_is _ _) (same_is _ _) (same_is _ _)
  refine c.mono ?_
  rintro e w' ⟨rfl, rfl⟩
  refine ⟨?_, rfl⟩
  congr 2
  unfold kd
  simp only [decide_eq_true_eq]
  by_cases h : p.data.toList = []
  · rw [h]; rfl
  · rw [if_neg (by simpa using h)]
theorem numberof (p : ByteArray) (hp : p.size ≤ 140737488355328) (w : World) (L : Lw w) : Calls Tryd.prog 17 #[.string p] w fun e w' => e = .returned (.int .i64 (nb p.data.toList)) ∧ Below w.heap.size w w' := by
  obtain ⟨_, ⟨t1, p1, v1⟩, ⟨t2, p2, v2⟩, _⟩ := L
  cases h : Lib.atoiAll p.data.toList with
  | ok v =>
    have e : nb p.data.toList = v := by unfold nb; rw [h]
    rw [e]
    go_enter Tryd.func17, Tryd.ntmps17
    go_wp2_with (go_at_call 25; refine (Tryd.strconv_Atoi_ok p (by omega) v h w).mono ?_; rintro e w' ⟨rfl, hw⟩)
    go_ret
    refine ⟨rfl, ?_⟩
    rcases hw with rfl | ⟨t, rfl⟩
    · exact Below.refl _ _
    · exact Lib.bytesWorld_below _ _ _
  | «syntax» =>
    have e : nb p.data.toList = 0 := by unfold nb; rw [h]
    rw [e]
    go_enter Tryd.func17, Tryd.ntmps17
    go_wp2_with (go_at_call 25; refine (Tryd.strconv_Atoi_syntax_var p (by omega) h t2 p2 w v2).mono ?_; rintro e w' ⟨M, rfl, _, _, hb⟩)
    go_ret
    exact ⟨rfl, hb⟩
  | range =>
    have e : nb p.data.toList = Lib.atoiSat p.data.toList := by unfold nb; rw [h]
    rw [e]
    go_enter Tryd.func17, Tryd.ntmps17
    go_wp2_with (go_at_call 25; refine (Tryd.strconv_Atoi_range_var p (by omega) h t1 p1 w v1).mono ?_; rintro e w' ⟨M, rfl, _, _, hb⟩)
    go_ret
    exact ⟨rfl, hb⟩
end Go.Proofs.YtjageagnclmnjaaDoor.D
