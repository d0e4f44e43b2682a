/- PROVED: the walk of the law TopText. CONDITIONS: none beyond each theorem's own. -/
import Derived.Test.YtjageagnclmnjaaGreatDoorX45Alt
import Derived.Test.YtjageagnclmnjaaGreatDoorX47Tbr
import Derived.Test.YtjageagnclmnjaaGreatDoorX46DPlay
import Derived.Deep.RegionHeld3
namespace Go.Proofs.YtjageagnclmnjaaGreatDoor.D
set_option maxRecDepth 100000
open Go.RowKit K
set_option linter.unusedVariables false

/-- what lies in a block, cell by cell -/
structure Cls (w : World) (C : Nat) (vs : List Value) : Prop where
  c : ∀ i v, vs[i]? = some v → w.cell? ⟨C, i, none⟩ = some v
theorem Cls.new (w : World) (vs : Array Value) (t : Nat) : Cls (w.alloc (.cells vs t)) w.heap.size vs.toList := ⟨fun i v h => by
  rw [World.cell?_alloc_at _ _ _ _ rfl]; simpa using h⟩
theorem Cls.kept {w w' : World} {C : Nat} {vs : List Value} (h : Cls w C vs) (b : Below w.heap.size w w') : Cls w' C vs :=
  ⟨fun i v hv => (b.cell (p := ⟨C, i, none⟩) (block_lt (h.c i v hv))).trans (h.c i v hv)⟩

set_option maxHeartbeats 6400000 in
theorem ttx_bad (p0 p1 rr bf jt who ratio k m D G E F : Int) (s : ByteArray) (la : Option Addr) (ln lc : Nat) (ls : List (Int × Int)) (w : World) (L : Lw w) (hv : VRow w la ls)
    (hbad : (D != 0) = true ∨ ((D != 0) = false ∧ (F != 0) = true) ∨ ((D != 0) = false ∧ (F != 0) = false ∧ decide (who < 0) = true) ∨ ((D != 0) = false ∧ (F != 0) = false ∧ decide (who < 0) = false ∧ decide (1 < who) = true))
    (al : ∀ v, Lw v → Calls Tryz.prog 12 #[] v fun e w' => e = .returned (.bool true) ∧ Below v.heap.size v w')
    (pa : ∀ v, Lw v → Calls Tryz.prog 13 #[.string s] v fun e w' => e = .returned (.tuple #[.agg #[.int .i64 p0, .int .i64 p1, .int .i64 rr, .int .i64 bf, .int .i64 jt], .int .i64 G]) ∧ Below v.heap.size v w')
    (j0 : ∀ v, Calls Tryz.prog 14 #[.agg #[.int .i64 p0, .int .i64 p1, .int .i64 rr, .int .i64 bf, .int .i64 jt], .int .i64 who, .int .i64 ratio] v fun e w' => ∃ a na ca b nb cb, e = .returned (.tuple #[.agg #[.int .i64 k, .int .i64 m, .slice a na ca, .slice b nb cb], .int .i64 E]) ∧ Below v.heap.size v w')
    (te : ∀ v, Lw v → Calls Tryz.prog 7 #[.string s, .int .i64 ratio] v fun e w' => ∃ a n c, e = .returned (.tuple #[.slice a n c, .int .i64 D]) ∧ Below v.heap.size v w')
    (pl : ∀ v, VRow v la ls → Calls Tryz.prog 15 #[.agg #[.int .i64 p0, .int .i64 p1, .int .i64 rr, .int .i64 bf, .int .i64 jt], .slice la ln lc] v fun e w' => ∃ ao n cp, ∃ y : Sx, e = .returned (.tuple #[.slice ao n cp, .agg #[.int .i64 y.f0.k, .int .i64 y.f0.n, .int .i64 y.f0.b, .int .i64 y.f0.a, .int .i64 y.f0.s, .int .i64 y.f0.q, .int .i64 y.f1.k, .int .i64 y.f1.n, .int .i64 y.f1.b, .int .i64 y.f1.a, .int .i64 y.f1.s, .int .i64 y.f1.q, .int .i64 y.w0, .int .i64 y.w1], .int .i64 F]) ∧ Below v.heap.size v w') :
    Calls Tryz.prog 5 #[.string s, .int .i64 ratio, .int .i64 who, .slice la ln lc] w fun e w' => e = .returned (.bool true) ∧ Below w.heap.size w w' := by
  rcases hbad with c0 | ⟨c0, c1⟩ | ⟨c0, c1, c2⟩ | ⟨c0, c1, c2, c3⟩
  all_goals
    go_enter Tryz.func5, Tryz.ntmps5
    go_wp2_with (first
      | (go_at_call 12; refine (al _ L).mono ?_; clear al; rintro e v0 ⟨rfl, B⟩; replace L := L.kept B; replace hv := hv.kept B)
      | (go_at_call 7; refine (te _ L).mono ?_; clear te; rintro e v1 ⟨ta, tn, tc, rfl, b9⟩; replace L := L.kept b9; replace hv := hv.kept b9; replace B := bthen B b9; clear b9)
      | (go_at_call 13; refine (pa _ L).mono ?_; clear pa; rintro e v2 ⟨rfl, b9⟩; replace b9 := balloc b9 (.cells #[.int .i64 p0, .int .i64 p1, .int .i64 rr, .int .i64 bf, .int .i64 jt] 33); replace hv := hv.kept b9; replace B := bthen B b9; have X := Rul.new v2 _ rfl p0 p1 rr bf jt; clear b9 L; obtain ⟨x0, x1, x2, x3, x4, -, -, -, -, -⟩ := id X)
      | (go_at_call 14; refine (j0 _).mono ?_; clear j0 x0 x1 x2 x3 x4; rintro e v3 ⟨a, na, ca, b, nb, cb, rfl, b9⟩; replace b9 := balloc b9 (.cells #[.int .i64 k, .int .i64 m, .slice a na ca, .slice b nb cb] 37); replace hv := hv.kept b9; replace B := bthen B b9; replace X := X.kept b9; have V := Cls.new v3 #[.int .i64 k, .int .i64 m, .slice a na ca, .slice b nb cb] 37; clear b9; obtain ⟨x0, x1, x2, x3, x4, -, -, -, -, -⟩ := id X)
      | (go_at_call 15; refine (pl _ hv).mono ?_; clear pl x0 x1 x2 x3 x4 hv X; rintro e v4 ⟨ao, n, cp, y, rfl, b9⟩; replace b9 := balloc b9 (.cells #[.int .i64 y.f0.k, .int .i64 y.f0.n, .int .i64 y.f0.b, .int .i64 y.f0.a, .int .i64 y.f0.s, .int .i64 y.f0.q, .int .i64 y.f1.k, .int .i64 y.f1.n, .int .i64 y.f1.b, .int .i64 y.f1.a, .int .i64 y.f1.s, .int .i64 y.f1.q, .int .i64 y.w0, .int .i64 y.w1] 45); replace B := bthen B b9; replace V := V.kept b9; clear b9; have q0 := V.c 0 _ rfl; have q1 := V.c 1 _ rfl))
    go_ret
    exact ⟨rfl, B⟩

set_option maxHeartbeats 6400000 in
theorem ttx_stv0 (p0 p1 rr bf jt ratio k m G E : Int) (s l0 l1 : ByteArray) (la : Option Addr) (ln lc n : Nat) (ls : List (Int × Int)) (R : List Rx) (w : World) (L : Lw w) (hv : VRow w la ls) (hk : (k != 1) = true) (hl : l0.toList = [48, 32, 115, 116, 97, 114, 118, 101, 115])
    (al : ∀ v, Lw v → Calls Tryz.prog 12 #[] v fun e w' => e = .returned (.bool true) ∧ Below v.heap.size v w')
    (pa : ∀ v, Lw v → Calls Tryz.prog 13 #[.string s] v fun e w' => e = .returned (.tuple #[.agg #[.int .i64 p0, .int .i64 p1, .int .i64 rr, .int .i64 bf, .int .i64 jt], .int .i64 G]) ∧ Below v.heap.size v w')
    (j0 : ∀ v, Calls Tryz.prog 14 #[.agg #[.int .i64 p0, .int .i64 p1, .int .i64 rr, .int .i64 bf, .int .i64 jt], .int .i64 0, .int .i64 ratio] v fun e w' => ∃ a na ca b nb cb, e = .returned (.tuple #[.agg #[.int .i64 k, .int .i64 m, .slice a na ca, .slice b nb cb], .int .i64 E]) ∧ Below v.heap.size v w')
    (te : ∀ v, Lw v → Calls Tryz.prog 7 #[.string s, .int .i64 ratio] v fun e w' => ∃ g cap, e = .returned (.tuple #[.slice (some ⟨g, 0, none⟩) 2 cap, .int .i64 0]) ∧ (w'.cell? ⟨g, 0, none⟩ = some (.string l0) ∧ w'.cell? ⟨g, 1, none⟩ = some (.string l1)) ∧ Below v.heap.size v w')
    (pl : ∀ v, VRow v la ls → Calls Tryz.prog 15 #[.agg #[.int .i64 p0, .int .i64 p1, .int .i64 rr, .int .i64 bf, .int .i64 jt], .slice la ln lc] v fun e w' => ∃ ao cp, ∃ y : Sx, e = .returned (.tuple #[.slice ao n cp, .agg #[.int .i64 y.f0.k, .int .i64 y.f0.n, .int .i64 y.f0.b, .int .i64 y.f0.a, .int .i64 y.f0.s, .int .i64 y.f0.q, .int .i64 y.f1.k, .int .i64 y.f1.n, .int .i64 y.f1.b, .int .i64 y.f1.a, .int .i64 y.f1.s, .int .i64 y.f1.q, .int .i64 y.w0, .int .i64 y.w1], .int .i64 0]) ∧ RRow w' ao R ∧ Below v.heap.size v w') :
    Calls Tryz.prog 5 #[.string s, .int .i64 ratio, .int .i64 0, .slice la ln lc] w fun e w' => e = .returned (.bool true) ∧ Below w.heap.size w w' := by
  go_enter Tryz.func5, Tryz.ntmps5
  go_wp2_with (first
      | (go_at_call 12; refine (al _ L).mono ?_; clear al; rintro e v0 ⟨rfl, B⟩; replace L := L.kept B; replace hv := hv.kept B)
      | (go_at_call 7; refine (te _ L).mono ?_; clear te; rintro e v1 ⟨g, cap, rfl, ⟨d0, d1⟩, b9⟩; replace L := L.kept b9; replace hv := hv.kept b9; replace B := bthen B b9; clear b9)
      | (go_at_call 13; refine (pa _ L).mono ?_; clear pa; rintro e v2 ⟨rfl, b9⟩; replace b9 := balloc b9 (.cells #[.int .i64 p0, .int .i64 p1, .int .i64 rr, .int .i64 bf, .int .i64 jt] 33); replace d0 := (b9.cell (p := ⟨g, 0, none⟩) (block_lt d0)).trans d0; replace d1 := (b9.cell (p := ⟨g, 1, none⟩) (block_lt d1)).trans d1; replace hv := hv.kept b9; replace B := bthen B b9; have X := Rul.new v2 _ rfl p0 p1 rr bf jt; clear b9 L; obtain ⟨x0, x1, x2, x3, x4, -, -, -, -, -⟩ := id X)
      | (go_at_call 14; refine (j0 _).mono ?_; clear j0 x0 x1 x2 x3 x4; rintro e v3 ⟨a, na, ca, b, nb, cb, rfl, b9⟩; replace b9 := balloc b9 (.cells #[.int .i64 k, .int .i64 m, .slice a na ca, .slice b nb cb] 37); replace d0 := (b9.cell (p := ⟨g, 0, none⟩) (block_lt d0)).trans d0; replace d1 := (b9.cell (p := ⟨g, 1, none⟩) (block_lt d1)).trans d1; replace hv := hv.kept b9; replace B := bthen B b9; replace X := X.kept b9; have V := Cls.new v3 #[.int .i64 k, .int .i64 m, .slice a na ca, .slice b nb cb] 37; clear b9; obtain ⟨x0, x1, x2, x3, x4, -, -, -, -, -⟩ := id X)
      | (go_at_call 15; refine (pl _ hv).mono ?_; clear pl x0 x1 x2 x3 x4 hv X; rintro e v4 ⟨ao, cp, y, rfl, hR, b9⟩; replace b9 := balloc b9 (.cells #[.int .i64 y.f0.k, .int .i64 y.f0.n, .int .i64 y.f0.b, .int .i64 y.f0.a, .int .i64 y.f0.s, .int .i64 y.f0.q, .int .i64 y.f1.k, .int .i64 y.f1.n, .int .i64 y.f1.b, .int .i64 y.f1.a, .int .i64 y.f1.s, .int .i64 y.f1.q, .int .i64 y.w0, .int .i64 y.w1] 45); replace d0 := (b9.cell (p := ⟨g, 0, none⟩) (block_lt d0)).trans d0; replace d1 := (b9.cell (p := ⟨g, 1, none⟩) (block_lt d1)).trans d1; replace hR := hR.alloc (.cells #[.int .i64 y.f0.k, .int .i64 y.f0.n, .int .i64 y.f0.b, .int .i64 y.f0.a, .int .i64 y.f0.s, .int .i64 y.f0.q, .int .i64 y.f1.k, .int .i64 y.f1.n, .int .i64 y.f1.b, .int .i64 y.f1.a, .int .i64 y.f1.s, .int .i64 y.f1.q, .int .i64 y.w0, .int .i64 y.w1] 45); replace B := bthen B b9; replace V := V.kept b9; clear b9; have q0 := V.c 0 _ rfl; have q1 := V.c 1 _ rfl))
  clear hR
  generalize hW : v4.alloc (.cells #[.int .i64 y.f0.k, .int .i64 y.f0.n, .int .i64 y.f0.b, .int .i64 y.f0.a, .int .i64 y.f0.s, .int .i64 y.f0.q, .int .i64 y.f1.k, .int .i64 y.f1.n, .int .i64 y.f1.b, .int .i64 y.f1.a, .int .i64 y.f1.s, .int .i64 y.f1.q, .int .i64 y.w0, .int .i64 y.w1] 45) = W at *
  clear hW
  have e0 := (balloc (Below.refl _ W.drew) (.cells #[.string ⟨#[48, 32, 115, 116, 97, 114, 118, 101, 115]⟩, .string ⟨#[49, 32, 115, 116, 97, 114, 118, 101, 115]⟩] 9)).cell (p := ⟨g, 0, none⟩) (block_lt d0) |>.trans d0
  have e9 := (balloc (Below.refl _ W.drew) (.cells #[.string ⟨#[48, 32, 115, 116, 97, 114, 118, 101, 115]⟩, .string ⟨#[49, 32, 115, 116, 97, 114, 118, 101, 115]⟩] 9)).cell (p := ⟨v3.heap.size, 1, none⟩) (block_lt q1) |>.trans q1
  have c7 : (W.drew.alloc (.cells #[.string ⟨#[48, 32, 115, 116, 97, 114, 118, 101, 115]⟩, .string ⟨#[49, 32, 115, 116, 97, 114, 118, 101, 115]⟩] 9)).cell? ⟨W.heap.size, 0, none⟩ = some (.string ⟨#[48, 32, 115, 116, 97, 114, 118, 101, 115]⟩) := (World.cell?_alloc_at (w := W.drew) #[.string ⟨#[48, 32, 115, 116, 97, 114, 118, 101, 115]⟩, .string ⟨#[49, 32, 115, 116, 97, 114, 118, 101, 115]⟩] 9 W.heap.size 0 rfl).trans rfl
  have BB := balloc (Below.drew B) (.cells #[.string ⟨#[48, 32, 115, 116, 97, 114, 118, 101, 115]⟩, .string ⟨#[49, 32, 115, 116, 97, 114, 118, 101, 115]⟩] 9)
  refine wp_region_noPanic ?_
  refine wp_region_held_drew (S := fun w' => w'.cell? ⟨g, 0, none⟩ = some (.string l0) ∧ w'.cell? ⟨v3.heap.size, 1, none⟩ = some (.int .i64 m)) (by kernel_rfl) ⟨d0, q1⟩ (fun hHeld => ?_)
  refine wpAnyH_take (i := 0) (v := .slice (some ⟨g, 0, none⟩) 2 cap) rfl (by kernel_rfl) (by kernel_rfl) (by kernel_rfl) (fun _ _ _ h => h) (Or.inl ⟨by rfl, by intro ww hSw; obtain ⟨s0, s1⟩ := hSw; go_simp⟩) hHeld ?_
  try simp only [Act.put]
  refine wpAnyH_take (i := 1) (v := .int .i64 0) rfl (by kernel_rfl) (by kernel_rfl) (by kernel_rfl) (fun _ _ _ h => h) (Or.inl ⟨by rfl, by intro ww hSw; obtain ⟨s0, s1⟩ := hSw; go_simp⟩) hHeld ?_
  try simp only [Act.put]
  refine wpAnyH_take (i := 2) (v := .pointer (some ⟨g, 0, none⟩)) rfl (by kernel_rfl) (by kernel_rfl) (by kernel_rfl) (fun _ _ _ h => h) (Or.inl ⟨by rfl, by intro ww hSw; obtain ⟨s0, s1⟩ := hSw; go_simp⟩) hHeld ?_
  try simp only [Act.put]
  refine wpAnyH_take (i := 3) (v := .string l0) rfl (by kernel_rfl) (by kernel_rfl) (by kernel_rfl) (fun _ _ _ h => h) (Or.inl ⟨by rfl, by intro ww hSw; obtain ⟨s0, s1⟩ := hSw; go_simp⟩) hHeld ?_
  try simp only [Act.put]
  refine wpAnyH_take (i := 5) (v := .int .i64 0) rfl (by kernel_rfl) (by kernel_rfl) (by kernel_rfl) (fun _ _ _ h => h) (Or.inl ⟨by rfl, by intro ww hSw; obtain ⟨s0, s1⟩ := hSw; go_simp⟩) hHeld ?_
  try simp only [Act.put]
  refine wpAnyH_ready (rs := [4]) (by kernel_rfl) (by simp) ?_
  refine AllReadyH.cons rfl (fun KK hKK => ?_) AllReadyH.nil
  go_simp
  refine hKK.out _ _ ⟨e0, e9⟩ (fun hHeld => ?_)
  clear hKK KK
  try simp only [Act.put]
  refine wpAnyH_take (i := 6) (v := .pointer (some ⟨W.heap.size, 0, none⟩)) rfl (by kernel_rfl) (by kernel_rfl) (by kernel_rfl) (fun _ _ _ h => h) (Or.inl ⟨by rfl, by intro ww hSw; obtain ⟨s0, s1⟩ := hSw; go_simp⟩) hHeld ?_
  try simp only [Act.put]
  refine wpAnyH_ready (rs := [7]) (by kernel_rfl) (by simp) ?_
  refine AllReadyH.cons rfl (fun KK hKK => ?_) AllReadyH.nil
  go_simp
  refine hKK.out _ _ ⟨e0, e9⟩ (fun hHeld => ?_)
  clear hKK KK
  try simp only [Act.put]
  refine wpAnyH_take (i := 8) (v := .bool true) rfl (by kernel_rfl) (by kernel_rfl) (by kernel_rfl) (fun _ _ _ h => h) (Or.inl ⟨by rfl, by intro ww hSw; obtain ⟨s0, s1⟩ := hSw; go_simp <;> (try simp [*])⟩) hHeld ?_
  try simp only [Act.put]
  refine wpAnyH_take (i := 9) (v := .bool true) rfl (by kernel_rfl) (by kernel_rfl) (by kernel_rfl) (fun _ _ _ h => h) (Or.inl ⟨by rfl, by intro ww hSw; obtain ⟨s0, s1⟩ := hSw; go_simp⟩) hHeld ?_
  try simp only [Act.put]
  refine wpAnyH_done (by kernel_rfl) ?_ _
  refine NoPanic.normal ?_
  go_simp
  go_wp2
  refine bodyPost_ret (v := .bool true) (by simp [results, Tryz.results5, go_sem]) rfl ⟨rfl, BB⟩


set_option maxHeartbeats 6400000 in
theorem ttx_bnd0 (p0 p1 rr bf jt ratio k m tot G E : Int) (s l0 l1 : ByteArray) (la : Option Addr) (ln lc n : Nat) (ls : List (Int × Int)) (R : List Rx) (w : World) (L : Lw w) (hv : VRow w la ls) (hk : (k != 1) = false) (hl : ¬ l0.toList = [48, 32, 115, 116, 97, 114, 118, 101, 115]) (htop : decide (tot ≤ m) = true)
    (al : ∀ v, Lw v → Calls Tryz.prog 12 #[] v fun e w' => e = .returned (.bool true) ∧ Below v.heap.size v w')
    (pa : ∀ v, Lw v → Calls Tryz.prog 13 #[.string s] v fun e w' => e = .returned (.tuple #[.agg #[.int .i64 p0, .int .i64 p1, .int .i64 rr, .int .i64 bf, .int .i64 jt], .int .i64 G]) ∧ Below v.heap.size v w')
    (j0 : ∀ v, Calls Tryz.prog 14 #[.agg #[.int .i64 p0, .int .i64 p1, .int .i64 rr, .int .i64 bf, .int .i64 jt], .int .i64 0, .int .i64 ratio] v fun e w' => ∃ a na ca b nb cb, e = .returned (.tuple #[.agg #[.int .i64 k, .int .i64 m, .slice a na ca, .slice b nb cb], .int .i64 E]) ∧ Below v.heap.size v w')
    (te : ∀ v, Lw v → Calls Tryz.prog 7 #[.string s, .int .i64 ratio] v fun e w' => ∃ g cap, e = .returned (.tuple #[.slice (some ⟨g, 0, none⟩) 2 cap, .int .i64 0]) ∧ (w'.cell? ⟨g, 0, none⟩ = some (.string l0) ∧ w'.cell? ⟨g, 1, none⟩ = some (.string l1)) ∧ Below v.heap.size v w')
    (pl : ∀ v, VRow v la ls → Calls Tryz.prog 15 #[.agg #[.int .i64 p0, .int .i64 p1, .int .i64 rr, .int .i64 bf, .int .i64 jt], .slice la ln lc] v fun e w' => ∃ ao cp, ∃ y : Sx, e = .returned (.tuple #[.slice ao n cp, .agg #[.int .i64 y.f0.k, .int .i64 y.f0.n, .int .i64 y.f0.b, .int .i64 y.f0.a, .int .i64 y.f0.s, .int .i64 y.f0.q, .int .i64 y.f1.k, .int .i64 y.f1.n, .int .i64 y.f1.b, .int .i64 y.f1.a, .int .i64 y.f1.s, .int .i64 y.f1.q, .int .i64 y.w0, .int .i64 y.w1], .int .i64 0]) ∧ RRow w' ao R ∧ Below v.heap.size v w')
    (br : Hid (∀ ao v c, RRow v ao R → Calls Tryz.prog 16 #[.slice ao n c, .int .i64 0, .int .i64 ratio] v fun e w' => e = .returned (.int .i64 tot) ∧ Below v.heap.size v w')) :
    Calls Tryz.prog 5 #[.string s, .int .i64 ratio, .int .i64 0, .slice la ln lc] w fun e w' => e = .returned (.bool true) ∧ Below w.heap.size w w' := by
  go_enter Tryz.func5, Tryz.ntmps5
  go_wp2_with (first
      | (go_at_call 12; refine (al _ L).mono ?_; clear al; rintro e v0 ⟨rfl, B⟩; replace L := L.kept B; replace hv := hv.kept B)
      | (go_at_call 7; refine (te _ L).mono ?_; clear te; rintro e v1 ⟨g, cap, rfl, ⟨d0, d1⟩, b9⟩; replace L := L.kept b9; replace hv := hv.kept b9; replace B := bthen B b9; clear b9)
      | (go_at_call 13; refine (pa _ L).mono ?_; clear pa; rintro e v2 ⟨rfl, b9⟩; replace b9 := balloc b9 (.cells #[.int .i64 p0, .int .i64 p1, .int .i64 rr, .int .i64 bf, .int .i64 jt] 33); replace d0 := (b9.cell (p := ⟨g, 0, none⟩) (block_lt d0)).trans d0; replace d1 := (b9.cell (p := ⟨g, 1, none⟩) (block_lt d1)).trans d1; replace hv := hv.kept b9; replace B := bthen B b9; have X := Rul.new v2 _ rfl p0 p1 rr bf jt; clear b9 L; obtain ⟨x0, x1, x2, x3, x4, -, -, -, -, -⟩ := id X)
      | (go_at_call 14; refine (j0 _).mono ?_; clear j0 x0 x1 x2 x3 x4; rintro e v3 ⟨a, na, ca, b, nb, cb, rfl, b9⟩; replace b9 := balloc b9 (.cells #[.int .i64 k, .int .i64 m, .slice a na ca, .slice b nb cb] 37); replace d0 := (b9.cell (p := ⟨g, 0, none⟩) (block_lt d0)).trans d0; replace d1 := (b9.cell (p := ⟨g, 1, none⟩) (block_lt d1)).trans d1; replace hv := hv.kept b9; replace B := bthen B b9; replace X := X.kept b9; have V := Cls.new v3 #[.int .i64 k, .int .i64 m, .slice a na ca, .slice b nb cb] 37; clear b9; obtain ⟨x0, x1, x2, x3, x4, -, -, -, -, -⟩ := id X)
      | (go_at_call 15; refine (pl _ hv).mono ?_; clear pl x0 x1 x2 x3 x4 hv X; rintro e v4 ⟨ao, cp, y, rfl, hR, b9⟩; replace b9 := balloc b9 (.cells #[.int .i64 y.f0.k, .int .i64 y.f0.n, .int .i64 y.f0.b, .int .i64 y.f0.a, .int .i64 y.f0.s, .int .i64 y.f0.q, .int .i64 y.f1.k, .int .i64 y.f1.n, .int .i64 y.f1.b, .int .i64 y.f1.a, .int .i64 y.f1.s, .int .i64 y.f1.q, .int .i64 y.w0, .int .i64 y.w1] 45); replace d0 := (b9.cell (p := ⟨g, 0, none⟩) (block_lt d0)).trans d0; replace d1 := (b9.cell (p := ⟨g, 1, none⟩) (block_lt d1)).trans d1; replace hR := hR.alloc (.cells #[.int .i64 y.f0.k, .int .i64 y.f0.n, .int .i64 y.f0.b, .int .i64 y.f0.a, .int .i64 y.f0.s, .int .i64 y.f0.q, .int .i64 y.f1.k, .int .i64 y.f1.n, .int .i64 y.f1.b, .int .i64 y.f1.a, .int .i64 y.f1.s, .int .i64 y.f1.q, .int .i64 y.w0, .int .i64 y.w1] 45); replace B := bthen B b9; replace V := V.kept b9; clear b9; have q0 := V.c 0 _ rfl; have q1 := V.c 1 _ rfl))
  generalize hW : v4.alloc (.cells #[.int .i64 y.f0.k, .int .i64 y.f0.n, .int .i64 y.f0.b, .int .i64 y.f0.a, .int .i64 y.f0.s, .int .i64 y.f0.q, .int .i64 y.f1.k, .int .i64 y.f1.n, .int .i64 y.f1.b, .int .i64 y.f1.a, .int .i64 y.f1.s, .int .i64 y.f1.q, .int .i64 y.w0, .int .i64 y.w1] 45) = W at *
  clear hW
  have e0 := (balloc (Below.refl _ W.drew) (.cells #[.string ⟨#[48, 32, 115, 116, 97, 114, 118, 101, 115]⟩, .string ⟨#[49, 32, 115, 116, 97, 114, 118, 101, 115]⟩] 9)).cell (p := ⟨g, 0, none⟩) (block_lt d0) |>.trans d0
  have e9 := (balloc (Below.refl _ W.drew) (.cells #[.string ⟨#[48, 32, 115, 116, 97, 114, 118, 101, 115]⟩, .string ⟨#[49, 32, 115, 116, 97, 114, 118, 101, 115]⟩] 9)).cell (p := ⟨v3.heap.size, 1, none⟩) (block_lt q1) |>.trans q1
  have c7 : (W.drew.alloc (.cells #[.string ⟨#[48, 32, 115, 116, 97, 114, 118, 101, 115]⟩, .string ⟨#[49, 32, 115, 116, 97, 114, 118, 101, 115]⟩] 9)).cell? ⟨W.heap.size, 0, none⟩ = some (.string ⟨#[48, 32, 115, 116, 97, 114, 118, 101, 115]⟩) := (World.cell?_alloc_at (w := W.drew) #[.string ⟨#[48, 32, 115, 116, 97, 114, 118, 101, 115]⟩, .string ⟨#[49, 32, 115, 116, 97, 114, 118, 101, 115]⟩] 9 W.heap.size 0 rfl).trans rfl
  have hRR := hR.kept (balloc (Below.drew (Below.refl _ W)) (.cells #[.string ⟨#[48, 32, 115, 116, 97, 114, 118, 101, 115]⟩, .string ⟨#[49, 32, 115, 116, 97, 114, 118, 101, 115]⟩] 9))
  have BB := balloc (Below.drew B) (.cells #[.string ⟨#[48, 32, 115, 116, 97, 114, 118, 101, 115]⟩, .string ⟨#[49, 32, 115, 116, 97, 114, 118, 101, 115]⟩] 9)
  refine wp_region_noPanic ?_
  refine wp_region_held_drew (S := fun w' => w'.cell? ⟨g, 0, none⟩ = some (.string l0) ∧ w'.cell? ⟨v3.heap.size, 1, none⟩ = some (.int .i64 m)) (by kernel_rfl) ⟨d0, q1⟩ (fun hHeld => ?_)
  refine wpAnyH_take (i := 0) (v := .slice (some ⟨g, 0, none⟩) 2 cap) rfl (by kernel_rfl) (by kernel_rfl) (by kernel_rfl) (fun _ _ _ h => h) (Or.inl ⟨by rfl, by intro ww hSw; obtain ⟨s0, s1⟩ := hSw; go_simp⟩) hHeld ?_
  try simp only [Act.put]
  refine wpAnyH_take (i := 1) (v := .int .i64 0) rfl (by kernel_rfl) (by kernel_rfl) (by kernel_rfl) (fun _ _ _ h => h) (Or.inl ⟨by rfl, by intro ww hSw; obtain ⟨s0, s1⟩ := hSw; go_simp⟩) hHeld ?_
  try simp only [Act.put]
  refine wpAnyH_take (i := 2) (v := .pointer (some ⟨g, 0, none⟩)) rfl (by kernel_rfl) (by kernel_rfl) (by kernel_rfl) (fun _ _ _ h => h) (Or.inl ⟨by rfl, by intro ww hSw; obtain ⟨s0, s1⟩ := hSw; go_simp⟩) hHeld ?_
  try simp only [Act.put]
  refine wpAnyH_take (i := 3) (v := .string l0) rfl (by kernel_rfl) (by kernel_rfl) (by kernel_rfl) (fun _ _ _ h => h) (Or.inl ⟨by rfl, by intro ww hSw; obtain ⟨s0, s1⟩ := hSw; go_simp⟩) hHeld ?_
  try simp only [Act.put]
  refine wpAnyH_take (i := 5) (v := .int .i64 0) rfl (by kernel_rfl) (by kernel_rfl) (by kernel_rfl) (fun _ _ _ h => h) (Or.inl ⟨by rfl, by intro ww hSw; obtain ⟨s0, s1⟩ := hSw; go_simp⟩) hHeld ?_
  try simp only [Act.put]
  refine wpAnyH_ready (rs := [4]) (by kernel_rfl) (by simp) ?_
  refine AllReadyH.cons rfl (fun KK hKK => ?_) AllReadyH.nil
  go_simp
  refine hKK.out _ _ ⟨e0, e9⟩ (fun hHeld => ?_)
  clear hKK KK
  try simp only [Act.put]
  refine wpAnyH_take (i := 6) (v := .pointer (some ⟨W.heap.size, 0, none⟩)) rfl (by kernel_rfl) (by kernel_rfl) (by kernel_rfl) (fun _ _ _ h => h) (Or.inl ⟨by rfl, by intro ww hSw; obtain ⟨s0, s1⟩ := hSw; go_simp⟩) hHeld ?_
  try simp only [Act.put]
  refine wpAnyH_ready (rs := [7]) (by kernel_rfl) (by simp) ?_
  refine AllReadyH.cons rfl (fun KK hKK => ?_) AllReadyH.nil
  go_simp
  refine hKK.out _ _ ⟨e0, e9⟩ (fun hHeld => ?_)
  clear hKK KK
  try simp only [Act.put]
  refine wpAnyH_take (i := 8) (v := .bool true) rfl (by kernel_rfl) (by kernel_rfl) (by kernel_rfl) (fun _ _ _ h => h) (Or.inl ⟨by rfl, by intro ww hSw; obtain ⟨s0, s1⟩ := hSw; go_simp <;> (try simp [*])⟩) hHeld ?_
  try simp only [Act.put]
  refine wpAnyH_take (i := 9) (v := .bool true) rfl (by kernel_rfl) (by kernel_rfl) (by kernel_rfl) (fun _ _ _ h => h) (Or.inl ⟨by rfl, by intro ww hSw; obtain ⟨s0, s1⟩ := hSw; go_simp⟩) hHeld ?_
  try simp only [Act.put]
  go_simp
  refine wpAnyH_take (i := 10) (v := .slice ao n cp) rfl (by kernel_rfl) (by kernel_rfl) (by kernel_rfl) (fun _ _ _ h => h) (Or.inl ⟨by rfl, by intro ww hSw; obtain ⟨s0, s1⟩ := hSw; go_simp⟩) hHeld ?_
  try simp only [Act.put]
  refine wpAnyH_take (i := 11) (v := .int .i64 0) rfl (by kernel_rfl) (by kernel_rfl) (by kernel_rfl) (fun _ _ _ h => h) (Or.inl ⟨by rfl, by intro ww hSw; obtain ⟨s0, s1⟩ := hSw; go_simp⟩) hHeld ?_
  try simp only [Act.put]
  refine wpAnyH_take (i := 12) (v := .int .i64 ratio) rfl (by kernel_rfl) (by kernel_rfl) (by kernel_rfl) (fun _ _ _ h => h) (Or.inl ⟨by rfl, by intro ww hSw; obtain ⟨s0, s1⟩ := hSw; go_simp⟩) hHeld ?_
  try simp only [Act.put]
  refine wpAnyH_take (i := 14) (v := .pointer (some ⟨v3.heap.size, 1, none⟩)) rfl (by kernel_rfl) (by kernel_rfl) (by kernel_rfl) (fun _ _ _ h => h) (Or.inl ⟨by rfl, by intro ww hSw; obtain ⟨s0, s1⟩ := hSw; go_simp⟩) hHeld ?_
  try simp only [Act.put]
  refine wpAnyH_take (i := 15) (v := .int .i64 m) rfl (by kernel_rfl) (by kernel_rfl) (by kernel_rfl) (fun _ _ _ h => h) (Or.inl ⟨by rfl, by intro ww hSw; obtain ⟨s0, s1⟩ := hSw; go_simp⟩) hHeld ?_
  try simp only [Act.put]
  refine wpAnyH_ready (rs := [13]) (by kernel_rfl) (by simp) ?_
  refine AllReadyH.cons rfl (fun KK hKK => ?_) AllReadyH.nil
  go_simp
  go_wp2_with (go_at_call 16; refine (br.out _ _ _ hRR).mono ?_; clear br hRR; rintro e v5 ⟨rfl, b9⟩; replace e0 := (b9.cell (p := ⟨g, 0, none⟩) (block_lt e0)).trans e0; replace e9 := (b9.cell (p := ⟨v3.heap.size, 1, none⟩) (block_lt e9)).trans e9; replace BB := bthen BB b9; clear b9 c7)
  refine hKK.out _ _ ⟨e0, e9⟩ (fun hHeld => ?_)
  clear hKK KK
  try simp only [Act.put]
  refine wpAnyH_take (i := 16) (v := .bool true) rfl (by kernel_rfl) (by kernel_rfl) (by kernel_rfl) (fun _ _ _ h => h) (Or.inl ⟨by rfl, by intro ww hSw; obtain ⟨s0, s1⟩ := hSw; go_simp <;> (try simp [*])⟩) hHeld ?_
  try simp only [Act.put]
  refine wpAnyH_take (i := 17) (v := .bool true) rfl (by kernel_rfl) (by kernel_rfl) (by kernel_rfl) (fun _ _ _ h => h) (Or.inl ⟨by rfl, by intro ww hSw; obtain ⟨s0, s1⟩ := hSw; go_simp⟩) hHeld ?_
  try simp only [Act.put]
  refine wpAnyH_take (i := 18) (v := .bool true) rfl (by kernel_rfl) (by kernel_rfl) (by kernel_rfl) (fun _ _ _ h => h) (Or.inl ⟨by rfl, by intro ww hSw; obtain ⟨s0, s1⟩ := hSw; go_simp⟩) hHeld ?_
  try simp only [Act.put]
  refine wpAnyH_done (by kernel_rfl) ?_ _
  refine NoPanic.normal ?_
  go_simp
  go_wp2
  refine bodyPost_ret (v := .bool true) (by simp [results, Tryz.results5, go_sem]) rfl ⟨rfl, BB⟩


set_option maxHeartbeats 6400000 in
theorem ttx_stv1 (p0 p1 rr bf jt ratio k m G E : Int) (s l0 l1 : ByteArray) (la : Option Addr) (ln lc n : Nat) (ls : List (Int × Int)) (R : List Rx) (w : World) (L : Lw w) (hv : VRow w la ls) (hk : (k != 1) = true) (hl : l1.toList = [49, 32, 115, 116, 97, 114, 118, 101, 115])
    (al : ∀ v, Lw v → Calls Tryz.prog 12 #[] v fun e w' => e = .returned (.bool true) ∧ Below v.heap.size v w')
    (pa : ∀ v, Lw v → Calls Tryz.prog 13 #[.string s] v fun e w' => e = .returned (.tuple #[.agg #[.int .i64 p0, .int .i64 p1, .int .i64 rr, .int .i64 bf, .int .i64 jt], .int .i64 G]) ∧ Below v.heap.size v w')
    (j0 : ∀ v, Calls Tryz.prog 14 #[.agg #[.int .i64 p0, .int .i64 p1, .int .i64 rr, .int .i64 bf, .int .i64 jt], .int .i64 1, .int .i64 ratio] v fun e w' => ∃ a na ca b nb cb, e = .returned (.tuple #[.agg #[.int .i64 k, .int .i64 m, .slice a na ca, .slice b nb cb], .int .i64 E]) ∧ Below v.heap.size v w')
    (te : ∀ v, Lw v → Calls Tryz.prog 7 #[.string s, .int .i64 ratio] v fun e w' => ∃ g cap, e = .returned (.tuple #[.slice (some ⟨g, 0, none⟩) 2 cap, .int .i64 0]) ∧ (w'.cell? ⟨g, 0, none⟩ = some (.string l0) ∧ w'.cell? ⟨g, 1, none⟩ = some (.string l1)) ∧ Below v.heap.size v w')
    (pl : ∀ v, VRow v la ls → Calls Tryz.prog 15 #[.agg #[.int .i64 p0, .int .i64 p1, .int .i64 rr, .int .i64 bf, .int .i64 jt], .slice la ln lc] v fun e w' => ∃ ao cp, ∃ y : Sx, e = .returned (.tuple #[.slice ao n cp, .agg #[.int .i64 y.f0.k, .int .i64 y.f0.n, .int .i64 y.f0.b, .int .i64 y.f0.a, .int .i64 y.f0.s, .int .i64 y.f0.q, .int .i64 y.f1.k, .int .i64 y.f1.n, .int .i64 y.f1.b, .int .i64 y.f1.a, .int .i64 y.f1.s, .int .i64 y.f1.q, .int .i64 y.w0, .int .i64 y.w1], .int .i64 0]) ∧ RRow w' ao R ∧ Below v.heap.size v w') :
    Calls Tryz.prog 5 #[.string s, .int .i64 ratio, .int .i64 1, .slice la ln lc] w fun e w' => e = .returned (.bool true) ∧ Below w.heap.size w w' := by
  go_enter Tryz.func5, Tryz.ntmps5
  go_wp2_with (first
      | (go_at_call 12; refine (al _ L).mono ?_; clear al; rintro e v0 ⟨rfl, B⟩; replace L := L.kept B; replace hv := hv.kept B)
      | (go_at_call 7; refine (te _ L).mono ?_; clear te; rintro e v1 ⟨g, cap, rfl, ⟨d0, d1⟩, b9⟩; replace L := L.kept b9; replace hv := hv.kept b9; replace B := bthen B b9; clear b9)
      | (go_at_call 13; refine (pa _ L).mono ?_; clear pa; rintro e v2 ⟨rfl, b9⟩; replace b9 := balloc b9 (.cells #[.int .i64 p0, .int .i64 p1, .int .i64 rr, .int .i64 bf, .int .i64 jt] 33); replace d0 := (b9.cell (p := ⟨g, 0, none⟩) (block_lt d0)).trans d0; replace d1 := (b9.cell (p := ⟨g, 1, none⟩) (block_lt d1)).trans d1; replace hv := hv.kept b9; replace B := bthen B b9; have X := Rul.new v2 _ rfl p0 p1 rr bf jt; clear b9 L; obtain ⟨x0, x1, x2, x3, x4, -, -, -, -, -⟩ := id X)
      | (go_at_call 14; refine (j0 _).mono ?_; clear j0 x0 x1 x2 x3 x4; rintro e v3 ⟨a, na, ca, b, nb, cb, rfl, b9⟩; replace b9 := balloc b9 (.cells #[.int .i64 k, .int .i64 m, .slice a na ca, .slice b nb cb] 37); replace d0 := (b9.cell (p := ⟨g, 0, none⟩) (block_lt d0)).trans d0; replace d1 := (b9.cell (p := ⟨g, 1, none⟩) (block_lt d1)).trans d1; replace hv := hv.kept b9; replace B := bthen B b9; replace X := X.kept b9; have V := Cls.new v3 #[.int .i64 k, .int .i64 m, .slice a na ca, .slice b nb cb] 37; clear b9; obtain ⟨x0, x1, x2, x3, x4, -, -, -, -, -⟩ := id X)
      | (go_at_call 15; refine (pl _ hv).mono ?_; clear pl x0 x1 x2 x3 x4 hv X; rintro e v4 ⟨ao, cp, y, rfl, hR, b9⟩; replace b9 := balloc b9 (.cells #[.int .i64 y.f0.k, .int .i64 y.f0.n, .int .i64 y.f0.b, .int .i64 y.f0.a, .int .i64 y.f0.s, .int .i64 y.f0.q, .int .i64 y.f1.k, .int .i64 y.f1.n, .int .i64 y.f1.b, .int .i64 y.f1.a, .int .i64 y.f1.s, .int .i64 y.f1.q, .int .i64 y.w0, .int .i64 y.w1] 45); replace d0 := (b9.cell (p := ⟨g, 0, none⟩) (block_lt d0)).trans d0; replace d1 := (b9.cell (p := ⟨g, 1, none⟩) (block_lt d1)).trans d1; replace hR := hR.alloc (.cells #[.int .i64 y.f0.k, .int .i64 y.f0.n, .int .i64 y.f0.b, .int .i64 y.f0.a, .int .i64 y.f0.s, .int .i64 y.f0.q, .int .i64 y.f1.k, .int .i64 y.f1.n, .int .i64 y.f1.b, .int .i64 y.f1.a, .int .i64 y.f1.s, .int .i64 y.f1.q, .int .i64 y.w0, .int .i64 y.w1] 45); replace B := bthen B b9; replace V := V.kept b9; clear b9; have q0 := V.c 0 _ rfl; have q1 := V.c 1 _ rfl))
  clear hR
  generalize hW : v4.alloc (.cells #[.int .i64 y.f0.k, .int .i64 y.f0.n, .int .i64 y.f0.b, .int .i64 y.f0.a, .int .i64 y.f0.s, .int .i64 y.f0.q, .int .i64 y.f1.k, .int .i64 y.f1.n, .int .i64 y.f1.b, .int .i64 y.f1.a, .int .i64 y.f1.s, .int .i64 y.f1.q, .int .i64 y.w0, .int .i64 y.w1] 45) = W at *
  clear hW
  have e1 := (balloc (Below.refl _ W.drew) (.cells #[.string ⟨#[48, 32, 115, 116, 97, 114, 118, 101, 115]⟩, .string ⟨#[49, 32, 115, 116, 97, 114, 118, 101, 115]⟩] 9)).cell (p := ⟨g, 1, none⟩) (block_lt d1) |>.trans d1
  have e9 := (balloc (Below.refl _ W.drew) (.cells #[.string ⟨#[48, 32, 115, 116, 97, 114, 118, 101, 115]⟩, .string ⟨#[49, 32, 115, 116, 97, 114, 118, 101, 115]⟩] 9)).cell (p := ⟨v3.heap.size, 1, none⟩) (block_lt q1) |>.trans q1
  have c7 : (W.drew.alloc (.cells #[.string ⟨#[48, 32, 115, 116, 97, 114, 118, 101, 115]⟩, .string ⟨#[49, 32, 115, 116, 97, 114, 118, 101, 115]⟩] 9)).cell? ⟨W.heap.size, 1, none⟩ = some (.string ⟨#[49, 32, 115, 116, 97, 114, 118, 101, 115]⟩) := (World.cell?_alloc_at (w := W.drew) #[.string ⟨#[48, 32, 115, 116, 97, 114, 118, 101, 115]⟩, .string ⟨#[49, 32, 115, 116, 97, 114, 118, 101, 115]⟩] 9 W.heap.size 1 rfl).trans rfl
  have BB := balloc (Below.drew B) (.cells #[.string ⟨#[48, 32, 115, 116, 97, 114, 118, 101, 115]⟩, .string ⟨#[49, 32, 115, 116, 97, 114, 118, 101, 115]⟩] 9)
  refine wp_region_noPanic ?_
  refine wp_region_held_drew (S := fun w' => w'.cell? ⟨g, 1, none⟩ = some (.string l1) ∧ w'.cell? ⟨v3.heap.size, 1, none⟩ = some (.int .i64 m)) (by kernel_rfl) ⟨d1, q1⟩ (fun hHeld => ?_)
  refine wpAnyH_take (i := 0) (v := .slice (some ⟨g, 0, none⟩) 2 cap) rfl (by kernel_rfl) (by kernel_rfl) (by kernel_rfl) (fun _ _ _ h => h) (Or.inl ⟨by rfl, by intro ww hSw; obtain ⟨s0, s1⟩ := hSw; go_simp⟩) hHeld ?_
  try simp only [Act.put]
  refine wpAnyH_take (i := 1) (v := .int .i64 1) rfl (by kernel_rfl) (by kernel_rfl) (by kernel_rfl) (fun _ _ _ h => h) (Or.inl ⟨by rfl, by intro ww hSw; obtain ⟨s0, s1⟩ := hSw; go_simp⟩) hHeld ?_
  try simp only [Act.put]
  refine wpAnyH_take (i := 2) (v := .pointer (some ⟨g, 1, none⟩)) rfl (by kernel_rfl) (by kernel_rfl) (by kernel_rfl) (fun _ _ _ h => h) (Or.inl ⟨by rfl, by intro ww hSw; obtain ⟨s0, s1⟩ := hSw; go_simp⟩) hHeld ?_
  try simp only [Act.put]
  refine wpAnyH_take (i := 3) (v := .string l1) rfl (by kernel_rfl) (by kernel_rfl) (by kernel_rfl) (fun _ _ _ h => h) (Or.inl ⟨by rfl, by intro ww hSw; obtain ⟨s0, s1⟩ := hSw; go_simp⟩) hHeld ?_
  try simp only [Act.put]
  refine wpAnyH_take (i := 5) (v := .int .i64 1) rfl (by kernel_rfl) (by kernel_rfl) (by kernel_rfl) (fun _ _ _ h => h) (Or.inl ⟨by rfl, by intro ww hSw; obtain ⟨s0, s1⟩ := hSw; go_simp⟩) hHeld ?_
  try simp only [Act.put]
  refine wpAnyH_ready (rs := [4]) (by kernel_rfl) (by simp) ?_
  refine AllReadyH.cons rfl (fun KK hKK => ?_) AllReadyH.nil
  go_simp
  refine hKK.out _ _ ⟨e1, e9⟩ (fun hHeld => ?_)
  clear hKK KK
  try simp only [Act.put]
  refine wpAnyH_take (i := 6) (v := .pointer (some ⟨W.heap.size, 1, none⟩)) rfl (by kernel_rfl) (by kernel_rfl) (by kernel_rfl) (fun _ _ _ h => h) (Or.inl ⟨by rfl, by intro ww hSw; obtain ⟨s0, s1⟩ := hSw; go_simp⟩) hHeld ?_
  try simp only [Act.put]
  refine wpAnyH_ready (rs := [7]) (by kernel_rfl) (by simp) ?_
  refine AllReadyH.cons rfl (fun KK hKK => ?_) AllReadyH.nil
  go_simp
  refine hKK.out _ _ ⟨e1, e9⟩ (fun hHeld => ?_)
  clear hKK KK
  try simp only [Act.put]
  refine wpAnyH_take (i := 8) (v := .bool true) rfl (by kernel_rfl) (by kernel_rfl) (by kernel_rfl) (fun _ _ _ h => h) (Or.inl ⟨by rfl, by intro ww hSw; obtain ⟨s0, s1⟩ := hSw; go_simp <;> (try simp [*])⟩) hHeld ?_
  try simp only [Act.put]
  refine wpAnyH_take (i := 9) (v := .bool true) rfl (by kernel_rfl) (by kernel_rfl) (by kernel_rfl) (fun _ _ _ h => h) (Or.inl ⟨by rfl, by intro ww hSw; obtain ⟨s0, s1⟩ := hSw; go_simp⟩) hHeld ?_
  try simp only [Act.put]
  refine wpAnyH_done (by kernel_rfl) ?_ _
  refine NoPanic.normal ?_
  go_simp
  go_wp2
  refine bodyPost_ret (v := .bool true) (by simp [results, Tryz.results5, go_sem]) rfl ⟨rfl, BB⟩


set_option maxHeartbeats 6400000 in
theorem ttx_bnd1 (p0 p1 rr bf jt ratio k m tot G E : Int) (s l0 l1 : ByteArray) (la : Option Addr) (ln lc n : Nat) (ls : List (Int × Int)) (R : List Rx) (w : World) (L : Lw w) (hv : VRow w la ls) (hk : (k != 1) = false) (hl : ¬ l1.toList = [49, 32, 115, 116, 97, 114, 118, 101, 115]) (htop : decide (tot ≤ m) = true)
    (al : ∀ v, Lw v → Calls Tryz.prog 12 #[] v fun e w' => e = .returned (.bool true) ∧ Below v.heap.size v w')
    (pa : ∀ v, Lw v → Calls Tryz.prog 13 #[.string s] v fun e w' => e = .returned (.tuple #[.agg #[.int .i64 p0, .int .i64 p1, .int .i64 rr, .int .i64 bf, .int .i64 jt], .int .i64 G]) ∧ Below v.heap.size v w')
    (j0 : ∀ v, Calls Tryz.prog 14 #[.agg #[.int .i64 p0, .int .i64 p1, .int .i64 rr, .int .i64 bf, .int .i64 jt], .int .i64 1, .int .i64 ratio] v fun e w' => ∃ a na ca b nb cb, e = .returned (.tuple #[.agg #[.int .i64 k, .int .i64 m, .slice a na ca, .slice b nb cb], .int .i64 E]) ∧ Below v.heap.size v w')
    (te : ∀ v, Lw v → Calls Tryz.prog 7 #[.string s, .int .i64 ratio] v fun e w' => ∃ g cap, e = .returned (.tuple #[.slice (some ⟨g, 0, none⟩) 2 cap, .int .i64 0]) ∧ (w'.cell? ⟨g, 0, none⟩ = some (.string l0) ∧ w'.cell? ⟨g, 1, none⟩ = some (.string l1)) ∧ Below v.heap.size v w')
    (pl : ∀ v, VRow v la ls → Calls Tryz.prog 15 #[.agg #[.int .i64 p0, .int .i64 p1, .int .i64 rr, .int .i64 bf, .int .i64 jt], .slice la ln lc] v fun e w' => ∃ ao cp, ∃ y : Sx, e = .returned (.tuple #[.slice ao n cp, .agg #[.int .i64 y.f0.k, .int .i64 y.f0.n, .int .i64 y.f0.b, .int .i64 y.f0.a, .int .i64 y.f0.s, .int .i64 y.f0.q, .int .i64 y.f1.k, .int .i64 y.f1.n, .int .i64 y.f1.b, .int .i64 y.f1.a, .int .i64 y.f1.s, .int .i64 y.f1.q, .int .i64 y.w0, .int .i64 y.w1], .int .i64 0]) ∧ RRow w' ao R ∧ Below v.heap.size v w')
    (br : Hid (∀ ao v c, RRow v ao R → Calls Tryz.prog 16 #[.slice ao n c, .int .i64 1, .int .i64 ratio] v fun e w' => e = .returned (.int .i64 tot) ∧ Below v.heap.size v w')) :
    Calls Tryz.prog 5 #[.string s, .int .i64 ratio, .int .i64 1, .slice la ln lc] w fun e w' => e = .returned (.bool true) ∧ Below w.heap.size w w' := by
  go_enter Tryz.func5, Tryz.ntmps5
  go_wp2_with (first
      | (go_at_call 12; refine (al _ L).mono ?_; clear al; rintro e v0 ⟨rfl, B⟩; replace L := L.kept B; replace hv := hv.kept B)
      | (go_at_call 7; refine (te _ L).mono ?_; clear te; rintro e v1 ⟨g, cap, rfl, ⟨d0, d1⟩, b9⟩; replace L := L.kept b9; replace hv := hv.kept b9; replace B := bthen B b9; clear b9)
      | (go_at_call 13; refine (pa _ L).mono ?_; clear pa; rintro e v2 ⟨rfl, b9⟩; replace b9 := balloc b9 (.cells #[.int .i64 p0, .int .i64 p1, .int .i64 rr, .int .i64 bf, .int .i64 jt] 33); replace d0 := (b9.cell (p := ⟨g, 0, none⟩) (block_lt d0)).trans d0; replace d1 := (b9.cell (p := ⟨g, 1, none⟩) (block_lt d1)).trans d1; replace hv := hv.kept b9; replace B := bthen B b9; have X := Rul.new v2 _ rfl p0 p1 rr bf jt; clear b9 L; obtain ⟨x0, x1, x2, x3, x4, -, -, -, -, -⟩ := id X)
      | (go_at_call 14; refine (j0 _).mono ?_; clear j0 x0 x1 x2 x3 x4; rintro e v3 ⟨a, na, ca, b, nb, cb, rfl, b9⟩; replace b9 := balloc b9 (.cells #[.int .i64 k, .int .i64 m, .slice a na ca, .slice b nb cb] 37); replace d0 := (b9.cell (p := ⟨g, 0, none⟩) (block_lt d0)).trans d0; replace d1 := (b9.cell (p := ⟨g, 1, none⟩) (block_lt d1)).trans d1; replace hv := hv.kept b9; replace B := bthen B b9; replace X := X.kept b9; have V := Cls.new v3 #[.int .i64 k, .int .i64 m, .slice a na ca, .slice b nb cb] 37; clear b9; obtain ⟨x0, x1, x2, x3, x4, -, -, -, -, -⟩ := id X)
      | (go_at_call 15; refine (pl _ hv).mono ?_; clear pl x0 x1 x2 x3 x4 hv X; rintro e v4 ⟨ao, cp, y, rfl, hR, b9⟩; replace b9 := balloc b9 (.cells #[.int .i64 y.f0.k, .int .i64 y.f0.n, .int .i64 y.f0.b, .int .i64 y.f0.a, .int .i64 y.f0.s, .int .i64 y.f0.q, .int .i64 y.f1.k, .int .i64 y.f1.n, .int .i64 y.f1.b, .int .i64 y.f1.a, .int .i64 y.f1.s, .int .i64 y.f1.q, .int .i64 y.w0, .int .i64 y.w1] 45); replace d0 := (b9.cell (p := ⟨g, 0, none⟩) (block_lt d0)).trans d0; replace d1 := (b9.cell (p := ⟨g, 1, none⟩) (block_lt d1)).trans d1; replace hR := hR.alloc (.cells #[.int .i64 y.f0.k, .int .i64 y.f0.n, .int .i64 y.f0.b, .int .i64 y.f0.a, .int .i64 y.f0.s, .int .i64 y.f0.q, .int .i64 y.f1.k, .int .i64 y.f1.n, .int .i64 y.f1.b, .int .i64 y.f1.a, .int .i64 y.f1.s, .int .i64 y.f1.q, .int .i64 y.w0, .int .i64 y.w1] 45); replace B := bthen B b9; replace V := V.kept b9; clear b9; have q0 := V.c 0 _ rfl; have q1 := V.c 1 _ rfl))
  generalize hW : v4.alloc (.cells #[.int .i64 y.f0.k, .int .i64 y.f0.n, .int .i64 y.f0.b, .int .i64 y.f0.a, .int .i64 y.f0.s, .int .i64 y.f0.q, .int .i64 y.f1.k, .int .i64 y.f1.n, .int .i64 y.f1.b, .int .i64 y.f1.a, .int .i64 y.f1.s, .int .i64 y.f1.q, .int .i64 y.w0, .int .i64 y.w1] 45) = W at *
  clear hW
  have e1 := (balloc (Below.refl _ W.drew) (.cells #[.string ⟨#[48, 32, 115, 116, 97, 114, 118, 101, 115]⟩, .string ⟨#[49, 32, 115, 116, 97, 114, 118, 101, 115]⟩] 9)).cell (p := ⟨g, 1, none⟩) (block_lt d1) |>.trans d1
  have e9 := (balloc (Below.refl _ W.drew) (.cells #[.string ⟨#[48, 32, 115, 116, 97, 114, 118, 101, 115]⟩, .string ⟨#[49, 32, 115, 116, 97, 114, 118, 101, 115]⟩] 9)).cell (p := ⟨v3.heap.size, 1, none⟩) (block_lt q1) |>.trans q1
  have c7 : (W.drew.alloc (.cells #[.string ⟨#[48, 32, 115, 116, 97, 114, 118, 101, 115]⟩, .string ⟨#[49, 32, 115, 116, 97, 114, 118, 101, 115]⟩] 9)).cell? ⟨W.heap.size, 1, none⟩ = some (.string ⟨#[49, 32, 115, 116, 97, 114, 118, 101, 115]⟩) := (World.cell?_alloc_at (w := W.drew) #[.string ⟨#[48, 32, 115, 116, 97, 114, 118, 101, 115]⟩, .string ⟨#[49, 32, 115, 116, 97, 114, 118, 101, 115]⟩] 9 W.heap.size 1 rfl).trans rfl
  have hRR := hR.kept (balloc (Below.drew (Below.refl _ W)) (.cells #[.string ⟨#[48, 32, 115, 116, 97, 114, 118, 101, 115]⟩, .string ⟨#[49, 32, 115, 116, 97, 114, 118, 101, 115]⟩] 9))
  have BB := balloc (Below.drew B) (.cells #[.string ⟨#[48, 32, 115, 116, 97, 114, 118, 101, 115]⟩, .string ⟨#[49, 32, 115, 116, 97, 114, 118, 101, 115]⟩] 9)
  refine wp_region_noPanic ?_
  refine wp_region_held_drew (S := fun w' => w'.cell? ⟨g, 1, none⟩ = some (.string l1) ∧ w'.cell? ⟨v3.heap.size, 1, none⟩ = some (.int .i64 m)) (by kernel_rfl) ⟨d1, q1⟩ (fun hHeld => ?_)
  refine wpAnyH_take (i := 0) (v := .slice (some ⟨g, 0, none⟩) 2 cap) rfl (by kernel_rfl) (by kernel_rfl) (by kernel_rfl) (fun _ _ _ h => h) (Or.inl ⟨by rfl, by intro ww hSw; obtain ⟨s0, s1⟩ := hSw; go_simp⟩) hHeld ?_
  try simp only [Act.put]
  refine wpAnyH_take (i := 1) (v := .int .i64 1) rfl (by kernel_rfl) (by kernel_rfl) (by kernel_rfl) (fun _ _ _ h => h) (Or.inl ⟨by rfl, by intro ww hSw; obtain ⟨s0, s1⟩ := hSw; go_simp⟩) hHeld ?_
  try simp only [Act.put]
  refine wpAnyH_take (i := 2) (v := .pointer (some ⟨g, 1, none⟩)) rfl (by kernel_rfl) (by kernel_rfl) (by kernel_rfl) (fun _ _ _ h => h) (Or.inl ⟨by rfl, by intro ww hSw; obtain ⟨s0, s1⟩ := hSw; go_simp⟩) hHeld ?_
  try simp only [Act.put]
  refine wpAnyH_take (i := 3) (v := .string l1) rfl (by kernel_rfl) (by kernel_rfl) (by kernel_rfl) (fun _ _ _ h => h) (Or.inl ⟨by rfl, by intro ww hSw; obtain ⟨s0, s1⟩ := hSw; go_simp⟩) hHeld ?_
  try simp only [Act.put]
  refine wpAnyH_take (i := 5) (v := .int .i64 1) rfl (by kernel_rfl) (by kernel_rfl) (by kernel_rfl) (fun _ _ _ h => h) (Or.inl ⟨by rfl, by intro ww hSw; obtain ⟨s0, s1⟩ := hSw; go_simp⟩) hHeld ?_
  try simp only [Act.put]
  refine wpAnyH_ready (rs := [4]) (by kernel_rfl) (by simp) ?_
  refine AllReadyH.cons rfl (fun KK hKK => ?_) AllReadyH.nil
  go_simp
  refine hKK.out _ _ ⟨e1, e9⟩ (fun hHeld => ?_)
  clear hKK KK
  try simp only [Act.put]
  refine wpAnyH_take (i := 6) (v := .pointer (some ⟨W.heap.size, 1, none⟩)) rfl (by kernel_rfl) (by kernel_rfl) (by kernel_rfl) (fun _ _ _ h => h) (Or.inl ⟨by rfl, by intro ww hSw; obtain ⟨s0, s1⟩ := hSw; go_simp⟩) hHeld ?_
  try simp only [Act.put]
  refine wpAnyH_ready (rs := [7]) (by kernel_rfl) (by simp) ?_
  refine AllReadyH.cons rfl (fun KK hKK => ?_) AllReadyH.nil
  go_simp
  refine hKK.out _ _ ⟨e1, e9⟩ (fun hHeld => ?_)
  clear hKK KK
  try simp only [Act.put]
  refine wpAnyH_take (i := 8) (v := .bool true) rfl (by kernel_rfl) (by kernel_rfl) (by kernel_rfl) (fun _ _ _ h => h) (Or.inl ⟨by rfl, by intro ww hSw; obtain ⟨s0, s1⟩ := hSw; go_simp <;> (try simp [*])⟩) hHeld ?_
  try simp only [Act.put]
  refine wpAnyH_take (i := 9) (v := .bool true) rfl (by kernel_rfl) (by kernel_rfl) (by kernel_rfl) (fun _ _ _ h => h) (Or.inl ⟨by rfl, by intro ww hSw; obtain ⟨s0, s1⟩ := hSw; go_simp⟩) hHeld ?_
  try simp only [Act.put]
  go_simp
  refine wpAnyH_take (i := 10) (v := .slice ao n cp) rfl (by kernel_rfl) (by kernel_rfl) (by kernel_rfl) (fun _ _ _ h => h) (Or.inl ⟨by rfl, by intro ww hSw; obtain ⟨s0, s1⟩ := hSw; go_simp⟩) hHeld ?_
  try simp only [Act.put]
  refine wpAnyH_take (i := 11) (v := .int .i64 1) rfl (by kernel_rfl) (by kernel_rfl) (by kernel_rfl) (fun _ _ _ h => h) (Or.inl ⟨by rfl, by intro ww hSw; obtain ⟨s0, s1⟩ := hSw; go_simp⟩) hHeld ?_
  try simp only [Act.put]
  refine wpAnyH_take (i := 12) (v := .int .i64 ratio) rfl (by kernel_rfl) (by kernel_rfl) (by kernel_rfl) (fun _ _ _ h => h) (Or.inl ⟨by rfl, by intro ww hSw; obtain ⟨s0, s1⟩ := hSw; go_simp⟩) hHeld ?_
  try simp only [Act.put]
  refine wpAnyH_take (i := 14) (v := .pointer (some ⟨v3.heap.size, 1, none⟩)) rfl (by kernel_rfl) (by kernel_rfl) (by kernel_rfl) (fun _ _ _ h => h) (Or.inl ⟨by rfl, by intro ww hSw; obtain ⟨s0, s1⟩ := hSw; go_simp⟩) hHeld ?_
  try simp only [Act.put]
  refine wpAnyH_take (i := 15) (v := .int .i64 m) rfl (by kernel_rfl) (by kernel_rfl) (by kernel_rfl) (fun _ _ _ h => h) (Or.inl ⟨by rfl, by intro ww hSw; obtain ⟨s0, s1⟩ := hSw; go_simp⟩) hHeld ?_
  try simp only [Act.put]
  refine wpAnyH_ready (rs := [13]) (by kernel_rfl) (by simp) ?_
  refine AllReadyH.cons rfl (fun KK hKK => ?_) AllReadyH.nil
  go_simp
  go_wp2_with (go_at_call 16; refine (br.out _ _ _ hRR).mono ?_; clear br hRR; rintro e v5 ⟨rfl, b9⟩; replace e1 := (b9.cell (p := ⟨g, 1, none⟩) (block_lt e1)).trans e1; replace e9 := (b9.cell (p := ⟨v3.heap.size, 1, none⟩) (block_lt e9)).trans e9; replace BB := bthen BB b9; clear b9 c7)
  refine hKK.out _ _ ⟨e1, e9⟩ (fun hHeld => ?_)
  clear hKK KK
  try simp only [Act.put]
  refine wpAnyH_take (i := 16) (v := .bool true) rfl (by kernel_rfl) (by kernel_rfl) (by kernel_rfl) (fun _ _ _ h => h) (Or.inl ⟨by rfl, by intro ww hSw; obtain ⟨s0, s1⟩ := hSw; go_simp <;> (try simp [*])⟩) hHeld ?_
  try simp only [Act.put]
  refine wpAnyH_take (i := 17) (v := .bool true) rfl (by kernel_rfl) (by kernel_rfl) (by kernel_rfl) (fun _ _ _ h => h) (Or.inl ⟨by rfl, by intro ww hSw; obtain ⟨s0, s1⟩ := hSw; go_simp⟩) hHeld ?_
  try simp only [Act.put]
  refine wpAnyH_take (i := 18) (v := .bool true) rfl (by kernel_rfl) (by kernel_rfl) (by kernel_rfl) (fun _ _ _ h => h) (Or.inl ⟨by rfl, by intro ww hSw; obtain ⟨s0, s1⟩ := hSw; go_simp⟩) hHeld ?_
  try simp only [Act.put]
  refine wpAnyH_done (by kernel_rfl) ?_ _
  refine NoPanic.normal ?_
  go_simp
  go_wp2
  refine bodyPost_ret (v := .bool true) (by simp [results, Tryz.results5, go_sem]) rfl ⟨rfl, BB⟩

end Go.Proofs.YtjageagnclmnjaaGreatDoor.D
