/- PROVED: the walk of the law BenchReads. CONDITIONS: none beyond each theorem's own. -/
import Derived.Test.YtjageagnclmnjaaDoorUpa
import Derived.Test.YtjageagnclmnjaaDoorRsa
namespace Go.Proofs.YtjageagnclmnjaaDoor.D
open Go.RowKit K
set_option linter.unusedVariables false

/-- what is printed, and the error -/
theorem print_any (r : Ru) : ∃ (u : ByteArray) (E : Int), (∀ v, Lw v → Calls Tryd.prog 5 #[.agg #[.int .i64 r.k0, .int .i64 r.k1, .int .i64 r.r, .int .i64 r.m, .int .i64 r.j]] v fun e w' => e = .returned (.tuple #[.string u, .int .i64 E]) ∧ Below v.heap.size v w') ∧
    (∀ v, Calls Tryd.prog 6 #[.agg #[.int .i64 r.k0, .int .i64 r.k1, .int .i64 r.r, .int .i64 r.m, .int .i64 r.j]] v fun e w' => e = .returned (.tuple #[.string u, .int .i64 E]) ∧ Below v.heap.size v w') ∧ (wrong r = 0 ∧ E = 0 ∧ u = ⟨(tx r).toArray⟩ ∨ wrong r ≠ 0 ∧ E = wrong r ∧ u = ⟨#[]⟩) := by
  by_cases h : wrong r = 0
  · exact ⟨_, _, fun v l => print_yes r h v l, fun v => uprint_yes r h v, .inl ⟨h, rfl, rfl⟩⟩
  · have he : (wrong r != 0) = true := by simpa using h
    exact ⟨_, _, fun v l => print_no r _ rfl he v, fun v => uprint_no r _ rfl he v, .inr ⟨h, rfl, rfl⟩⟩
theorem parse_any (s : ByteArray) (hs : s.size ≤ 140737488355328) : ∃ (r : Ru) (E : Int), (∀ v, Lw v → Calls Tryd.prog 7 #[.string s] v fun e w' => e = .returned (.tuple #[.agg #[.int .i64 r.k0, .int .i64 r.k1, .int .i64 r.r, .int .i64 r.m, .int .i64 r.j], .int .i64 E]) ∧ Below v.heap.size v w') ∧
    (∀ v, Calls Tryd.prog 8 #[.string s] v fun e w' => e = .returned (.tuple #[.agg #[.int .i64 r.k0, .int .i64 r.k1, .int .i64 r.r, .int .i64 r.m, .int .i64 r.j], .int .i64 E]) ∧ Below v.heap.size v w') ∧ (E = 0 ∧ Rd s.data.toList r ∨ E = 1 ∧ (∀ t, ¬ Rd s.data.toList t) ∧ r = ⟨0, 0, 0, 0, 0⟩) := by
  by_cases h : ∃ r, Rd s.data.toList r
  · obtain ⟨r, h⟩ := h
    exact ⟨r, 0, fun v l => parse_rd s hs r h v l, fun v => uparse_rd s r h v, .inl ⟨rfl, h⟩⟩
  · have h' : ∀ t, ¬ Rd s.data.toList t := fun t ht => h ⟨t, ht⟩
    exact ⟨⟨0, 0, 0, 0, 0⟩, 1, fun v l => parse_not s hs h' v l, fun v => uparse_not s h' v, .inr ⟨rfl, h', rfl⟩⟩

attribute [local go_sem ↓] eqU neU
set_option maxRecDepth 100000 in
set_option maxHeartbeats 3200000 in
theorem reads_of (k0 k1 r m j x0 x1 x2 x3 x4 E F : Int) (u s : ByteArray) (w : World) (L : Lw w)
    (p : ∀ v, Lw v → Calls Tryd.prog 5 #[.agg #[.int .i64 k0, .int .i64 k1, .int .i64 r, .int .i64 m, .int .i64 j]] v fun e w' => e = .returned (.tuple #[.string u, .int .i64 E]) ∧ Below v.heap.size v w')
    (q : ∀ v, Calls Tryd.prog 6 #[.agg #[.int .i64 k0, .int .i64 k1, .int .i64 r, .int .i64 m, .int .i64 j]] v fun e w' => e = .returned (.tuple #[.string u, .int .i64 E]) ∧ Below v.heap.size v w')
    (y : ∀ v, Lw v → Calls Tryd.prog 7 #[.string s] v fun e w' => e = .returned (.tuple #[.agg #[.int .i64 x0, .int .i64 x1, .int .i64 x2, .int .i64 x3, .int .i64 x4], .int .i64 F]) ∧ Below v.heap.size v w')
    (z : ∀ v, Calls Tryd.prog 8 #[.string s] v fun e w' => e = .returned (.tuple #[.agg #[.int .i64 x0, .int .i64 x1, .int .i64 x2, .int .i64 x3, .int .i64 x4], .int .i64 F]) ∧ Below v.heap.size v w') :
    Calls Tryd.prog 3 #[.agg #[.int .i64 k0, .int .i64 k1, .int .i64 r, .int .i64 m, .int .i64 j], .string s] w fun e w' => e = .returned (.bool true) ∧ Below w.heap.size w w' := by
  have X := Rul.new w _ rfl k0 k1 r m j
  have B : Below w.heap.size w (w.alloc (.cells #[.int .i64 k0, .int .i64 k1, .int .i64 r, .int .i64 m, .int .i64 j] 24)) := balloc (Below.refl _ _) _
  replace L := L.kept B
  obtain ⟨c0, c1, c2, c3, c4, -, -, -, -, -⟩ := id X
  have hs := sameU_self x0 x1 x2 x3 x4
  go_enter Tryd.func3, Tryd.ntmps3
  go_wp2_with (first
    | (go_at_call 5; with_reducible refine (p _ L).mono ?_; clear p c0 c1 c2 c3 c4; rintro e v1 ⟨rfl, b⟩; replace X := X.kept b; replace L := L.kept b; replace B := bthen B b; clear b; obtain ⟨c0, c1, c2, c3, c4, -, -, -, -, -⟩ := id X)
    | (go_at_call 6; with_reducible refine (q _).mono ?_; clear q c0 c1 c2 c3 c4; rintro e v2 ⟨rfl, b⟩; replace L := L.kept b; replace B := bthen B b; clear b X)
    | (go_at_call 7; with_reducible refine (y _ L).mono ?_; clear y; rintro e v3 ⟨rfl, b⟩; replace B := balloc (bthen B b) (.cells #[.int .i64 x0, .int .i64 x1, .int .i64 x2, .int .i64 x3, .int .i64 x4] 24); have Y := Rul.new v3 _ rfl x0 x1 x2 x3 x4; clear b L)
    | (go_at_call 8; with_reducible refine (z _).mono ?_; clear z; rintro e v4 ⟨rfl, b⟩; replace B := balloc (bthen B b) (.cells #[.int .i64 x0, .int .i64 x1, .int .i64 x2, .int .i64 x3, .int .i64 x4] 24); replace Y := (Y.kept b).alloc (.cells #[.int .i64 x0, .int .i64 x1, .int .i64 x2, .int .i64 x3, .int .i64 x4] 24); have Z := Rul.new v4 _ rfl x0 x1 x2 x3 x4; clear b; obtain ⟨d0, d1, d2, d3, d4, -, -, -, -, -⟩ := id Y; obtain ⟨f0, f1, f2, f3, f4, -, -, -, -, -⟩ := id Z))


  go_ret
  exact ⟨rfl, B⟩
theorem benchReads_go (r : Ru) (s : ByteArray) (hs : s.size ≤ 140737488355328) (w : World) (L : Lw w) :
    Calls Tryd.prog 3 #[.agg #[.int .i64 r.k0, .int .i64 r.k1, .int .i64 r.r, .int .i64 r.m, .int .i64 r.j], .string s] w fun e w' => e = .returned (.bool true) ∧ Below w.heap.size w w' := by
  obtain ⟨u, E, p, q, _⟩ := print_any r
  obtain ⟨t, F, y, z, _⟩ := parse_any s hs
  exact reads_of _ _ _ _ _ _ _ _ _ _ E F u s w L p q y z
end Go.Proofs.YtjageagnclmnjaaDoor.D
