/- PROVED: the walk of the law BenchBack. CONDITIONS: none beyond each theorem's own. -/
import Derived.Test.YtjageagnclmnjaaDoorRea
namespace Go.Proofs.YtjageagnclmnjaaDoor.D
open Go.RowKit K
set_option linter.unusedVariables false
attribute [local go_sem ↓] eqU neU

abbrev sLive : ByteArray := ⟨#[99, 111, 112, 97, 32, 108, 101, 100, 98, 97, 116, 32, 51, 32, 56, 32, 50]⟩
def rLive : Ru := ⟨2, 3, 3, 8, 2⟩
theorem rd_live : Rd sLive.data.toList rLive := ⟨by decide +kernel, by decide +kernel⟩
set_option maxRecDepth 100000 in
set_option maxHeartbeats 3200000 in
theorem alive_of (s u : ByteArray) (hus : u.toList = [99, 111, 112, 97, 32, 108, 101, 100, 98, 97, 116, 32, 51, 32, 56, 32, 50]) (w : World) (L : Lw w)
    (p : ∀ v, Lw v → Calls Tryd.prog 5 #[.agg #[.int .i64 2, .int .i64 3, .int .i64 3, .int .i64 8, .int .i64 2]] v fun e w' => e = .returned (.tuple #[.string u, .int .i64 0]) ∧ Below v.heap.size v w')
    (y : ∀ v, Lw v → Calls Tryd.prog 7 #[.string sLive] v fun e w' => e = .returned (.tuple #[.agg #[.int .i64 2, .int .i64 3, .int .i64 3, .int .i64 8, .int .i64 2], .int .i64 0]) ∧ Below v.heap.size v w') :
    Calls Tryd.prog 9 #[] w fun e w' => e = .returned (.bool true) ∧ Below w.heap.size w w' := by
  have hs := sameU_self 2 3 3 8 2
  go_enter Tryd.func9, Tryd.ntmps9
  go_wp2_with (first
    | (go_at_call 7; with_reducible refine (y _ L).mono ?_; clear y; rintro e v3 ⟨rfl, b⟩; have B := balloc b (.cells #[.int .i64 2, .int .i64 3, .int .i64 3, .int .i64 8, .int .i64 2] 24); have Y := Rul.new v3 _ rfl 2 3 3 8 2; replace L := L.kept B; clear b; obtain ⟨d0, d1, d2, d3, d4, -, -, -, -, -⟩ := id Y)
    | (go_at_call 5; with_reducible refine (p _ L).mono ?_; clear p d0 d1 d2 d3 d4; rintro e v1 ⟨rfl, b⟩; replace Y := Y.kept b; replace B := bthen B b; clear b L; obtain ⟨d0, d1, d2, d3, d4, -, -, -, -, -⟩ := id Y))
  go_ret
  exact ⟨rfl, B⟩
theorem alive21 (w : World) (L : Lw w) : Calls Tryd.prog 9 #[] w fun e w' => e = .returned (.bool true) ∧ Below w.heap.size w w' :=
  alive_of sLive ⟨(tx rLive).toArray⟩ (by rw [Lib.toList_data]; exact rd_live.2) w L (fun v l => print_yes rLive rd_live.1 v l) (fun v l => parse_rd sLive (by decide) rLive rd_live v l)

set_option maxRecDepth 100000 in
set_option maxHeartbeats 6400000 in
theorem back_of (k0 k1 r m j x0 x1 x2 x3 x4 y0 y1 y2 y3 y4 E F G H : Int) (u s t : ByteArray) (w : World) (L : Lw w)
    (al : ∀ v, Lw v → Calls Tryd.prog 9 #[] v fun e w' => e = .returned (.bool true) ∧ Below v.heap.size v w')
    (p : ∀ v, Lw v → Calls Tryd.prog 5 #[.agg #[.int .i64 k0, .int .i64 k1, .int .i64 r, .int .i64 m, .int .i64 j]] v fun e w' => e = .returned (.tuple #[.string u, .int .i64 E]) ∧ Below v.heap.size v w')
    (wr : ∀ v, Calls Tryd.prog 10 #[.agg #[.int .i64 k0, .int .i64 k1, .int .i64 r, .int .i64 m, .int .i64 j]] v fun e w' => e = .returned (.int .i64 E) ∧ Below v.heap.size v w')
    (q : ∀ v, Lw v → Calls Tryd.prog 7 #[.string u] v fun e w' => e = .returned (.tuple #[.agg #[.int .i64 x0, .int .i64 x1, .int .i64 x2, .int .i64 x3, .int .i64 x4], .int .i64 F]) ∧ Below v.heap.size v w')
    (y : ∀ v, Lw v → Calls Tryd.prog 7 #[.string s] v fun e w' => e = .returned (.tuple #[.agg #[.int .i64 y0, .int .i64 y1, .int .i64 y2, .int .i64 y3, .int .i64 y4], .int .i64 G]) ∧ Below v.heap.size v w')
    (z : ∀ v, Lw v → Calls Tryd.prog 5 #[.agg #[.int .i64 y0, .int .i64 y1, .int .i64 y2, .int .i64 y3, .int .i64 y4]] v fun e w' => e = .returned (.tuple #[.string t, .int .i64 H]) ∧ Below v.heap.size v w')
    (h1 : (E != 0) = true ∧ (E == 0) = false ∨ (E = 0 ∧ F = 0 ∧ (x0 = k0 ∧ x1 = k1 ∧ x2 = r ∧ x3 = m ∧ x4 = j))) (h2 : G = 1 ∨ (G = 0 ∧ H = 0 ∧ (t.toList == s.toList) = true)) :
    Calls Tryd.prog 4 #[.agg #[.int .i64 k0, .int .i64 k1, .int .i64 r, .int .i64 m, .int .i64 j], .string s] w fun e w' => e = .returned (.bool true) ∧ Below w.heap.size w w' := by
  have X := Rul.new w _ rfl k0 k1 r m j
  have B : Below w.heap.size w (w.alloc (.cells #[.int .i64 k0, .int .i64 k1, .int .i64 r, .int .i64 m, .int .i64 j] 24)) := balloc (Below.refl _ _) _
  replace L := L.kept B
  have T1 : Hid True := trivial
  have T2 : Hid True := trivial
  have hs := sameU_self k0 k1 r m j
  rcases h1 with ⟨e0, e1⟩ | ⟨rfl, rfl, rfl, rfl, rfl, rfl, rfl⟩ <;> rcases h2 with rfl | ⟨rfl, rfl, h2⟩
  all_goals
    go_enter Tryd.func4, Tryd.ntmps4
    go_wp2_with (first
      | (go_at_call 9; with_reducible refine (al _ L).mono ?_; clear al; rintro e v0 ⟨rfl, b⟩; replace X := X.kept b; replace L := L.kept b; replace B := bthen B b; clear b; obtain ⟨c0, c1, c2, c3, c4, -, -, -, -, -⟩ := id X)
      | (clear T1; go_at_call 5; with_reducible refine (p _ L).mono ?_; clear p c0 c1 c2 c3 c4; rintro e v1 ⟨rfl, b⟩; replace X := X.kept b; replace L := L.kept b; replace B := bthen B b; clear b)
      | (clear T2; go_at_call 7; with_reducible refine (q _ L).mono ?_; clear q; rintro e v2 ⟨rfl, b⟩; replace X := (X.kept b).alloc (.cells #[.int .i64 x0, .int .i64 x1, .int .i64 x2, .int .i64 x3, .int .i64 x4] 24); have A := balloc b (.cells #[.int .i64 x0, .int .i64 x1, .int .i64 x2, .int .i64 x3, .int .i64 x4] 24); have Y := Rul.new v2 _ rfl x0 x1 x2 x3 x4; replace L := L.kept A; replace B := bthen B A; clear b A; obtain ⟨c0, c1, c2, c3, c4, -, -, -, -, -⟩ := id X; obtain ⟨d0, d1, d2, d3, d4, -, -, -, -, -⟩ := id Y; clear X Y)
      | (clear T2; go_at_call 7; with_reducible refine (q _ L).mono ?_; clear q; rintro e v2 ⟨rfl, b⟩; replace X := (X.kept b).alloc (.cells #[.int .i64 k0, .int .i64 k1, .int .i64 r, .int .i64 m, .int .i64 j] 24); have A := balloc b (.cells #[.int .i64 k0, .int .i64 k1, .int .i64 r, .int .i64 m, .int .i64 j] 24); have Y := Rul.new v2 _ rfl k0 k1 r m j; replace L := L.kept A; replace B := bthen B A; clear b A; obtain ⟨c0, c1, c2, c3, c4, -, -, -, -, -⟩ := id X; obtain ⟨d0, d1, d2, d3, d4, -, -, -, -, -⟩ := id Y; clear X Y)
      | (go_at_call 10; with_reducible refine (wr _).mono ?_; clear wr c0 c1 c2 c3 c4 d0 d1 d2 d3 d4; rintro e v3 ⟨rfl, b⟩; replace L := L.kept b; replace B := bthen B b; clear b)
      | (go_at_call 7; with_reducible refine (y _ L).mono ?_; clear y; (try clear c0 c1 c2 c3 c4 d0 d1 d2 d3 d4); rintro e v4 ⟨rfl, b⟩; have A := balloc b (.cells #[.int .i64 y0, .int .i64 y1, .int .i64 y2, .int .i64 y3, .int .i64 y4] 24); have Y := Rul.new v4 _ rfl y0 y1 y2 y3 y4; replace L := L.kept A; replace B := bthen B A; clear b A; obtain ⟨d0, d1, d2, d3, d4, -, -, -, -, -⟩ := id Y; clear Y)
      | (go_at_call 5; with_reducible refine (z _ L).mono ?_; clear z d0 d1 d2 d3 d4; rintro e v5 ⟨rfl, b⟩; replace B := bthen B b; clear b L))
    go_ret
    exact ⟨rfl, B⟩
theorem none_empty : ∀ r, ¬ Rd ([] : List UInt8) r := by
  intro r h
  have := congrArg wds h.2
  rw [tx_words (right_of h.1).2] at this
  simp [wds] at this
theorem nme_short (k : Int) : (nme k).length ≤ 6 := by
  unfold nme
  split
  · decide
  · split <;> decide
theorem tx_short {r : Ru} (h : kinds r ∧ ranges r) : (tx r).length ≤ 100 := by
  have hr := h.2
  unfold ranges at hr
  have h0 := nme_short r.k0
  have h1 := nme_short r.k1
  have h2 := dig_short r.r.toNat (by omega)
  have h3 := dig_short r.m.toNat (by omega)
  have h4 := dig_short r.j.toNat (by omega)
  unfold tx
  simp only [List.length_append, List.length_cons]
  omega
theorem benchBack_go (r : Ru) (s : ByteArray) (hs : s.size ≤ 140737488355328) (w : World) (L : Lw w) :
    Calls Tryd.prog 4 #[.agg #[.int .i64 r.k0, .int .i64 r.k1, .int .i64 r.r, .int .i64 r.m, .int .i64 r.j], .string s] w fun e w' => e = .returned (.bool true) ∧ Below w.heap.size w w' := by
  obtain ⟨u, E, p, _, hu⟩ := print_any r
  obtain ⟨t, G, y, _, ht⟩ := parse_any s hs
  obtain ⟨v, H, z, _, hz⟩ := print_any t
  have h2 : G = 1 ∨ (G = 0 ∧ H = 0 ∧ (v.toList == s.toList) = true) := by
    rcases ht with ⟨rfl, h⟩ | ⟨rfl, _⟩
    · rcases hz with ⟨_, rfl, rfl⟩ | ⟨g, _⟩
      · exact .inr ⟨rfl, rfl, same_text (decide_eq_true h.2)⟩
      · exact absurd h.1 g
    · exact .inl rfl
  rcases hu with ⟨h0, rfl, rfl⟩ | ⟨h0, rfl, rfl⟩
  · have hd : Rd (ByteArray.mk (tx r).toArray).data.toList r := ⟨h0, rfl⟩
    have hz : (ByteArray.mk (tx r).toArray).size ≤ 140737488355328 := by
      have := tx_short (right_of h0)
      show (tx r).length ≤ _
      omega
    exact back_of _ _ _ _ _ _ _ _ _ _ _ _ _ _ _ 0 0 G H _ s v w L alive21 p (fun v => wrong_is r 0 h0 v) (fun v l => parse_rd _ hz r hd v l) y z (.inr ⟨rfl, rfl, rfl, rfl, rfl, rfl, rfl⟩) h2
  · exact back_of _ _ _ _ _ _ _ _ _ _ _ _ _ _ _ _ 1 G H _ s v w L alive21 p (fun v => wrong_is r _ rfl v) (fun v l => parse_not _ (by decide) none_empty v l) y z (.inl ⟨by simpa using h0, by simpa using h0⟩) h2
end Go.Proofs.YtjageagnclmnjaaDoor.D
