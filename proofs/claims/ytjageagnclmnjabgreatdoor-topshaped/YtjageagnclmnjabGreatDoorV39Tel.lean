/- PROVED: what bench.Tell answers. CONDITIONS: none beyond each theorem's own. -/
import Derived.Test.YtjageagnclmnjabGreatDoorB37Lin
import Derived.Laws.AppendOwn
import Derived.Lib.Hide
namespace Go.Proofs.YtjageagnclmnjabGreatDoor.D
set_option maxRecDepth 100000
open Go.RowKit K
set_option linter.unusedVariables false

theorem infS : (Tryz.prog.info? 9).map (fun i => (i.zero, i.size, i.bytes)) = some (some (.string ⟨#[]⟩), 1, 16) := by kernel_rfl
theorem str_new (w : World) (x : ByteArray) (j : Nat) (u : Value) (h : [Value.string x][j]? = some u) : (w.alloc (.cells #[.string x] 9)).cell? ((⟨w.heap.size, 0, none⟩ : Addr).add j) = some u := by
  rw [Addr.add_lit, Nat.zero_add]
  exact (World.cell?_alloc_at (w := w) #[.string x] 9 w.heap.size j rfl).trans (by simpa using h)
theorem ownS_kept {wr w1 : World} {base : Nat} {t : Value} {n : Nat} {xs : List Value} (h : wr.ownsRow base 9 1 t n xs) (b : Below wr.heap.size wr w1) : w1.ownsRow base 9 1 t n xs := by
  obtain ⟨hl, h2⟩ := h
  refine ⟨hl, ?_⟩
  rcases h2 with e | ⟨g, cap, cur, e, hg, hh, r⟩
  · exact .inl e
  · refine .inr ⟨g, cap, cur, e, hg, ?_, r⟩
    have : g < wr.heap.size := lt_of_block hh
    rw [b.block g this]; exact hh
/-- what lies there while lines are gathered: the rules in block C, ahead of all that is gathered -/
structure Tg (w : World) (C : Nat) (p0 p1 r m j : Int) (t : Value) (xs : List ByteArray) (v : World) : Prop where
  l0 : Lw w
  x : Rul v C p0 p1 r m j
  hC : w.heap.size ≤ C
  own : v.ownsRow (C + 1) 9 1 t xs.length (xs.map Value.string)
  b : Below (C + 1) v v
  bw : Below w.heap.size w v
section
variable {w v v' : World} {C : Nat} {p0 p1 r m j : Int} {t t' : Value} {xs : List ByteArray}
theorem Tg.lw (h : Tg w C p0 p1 r m j t xs v) : Lw v := h.l0.kept h.bw
theorem Tg.kept (h : Tg w C p0 p1 r m j t xs v) (g : Below v.heap.size v v') : Tg w C p0 p1 r m j t xs v' := ⟨h.l0, h.x.kept g, h.hC, ownS_kept h.own g, Below.refl _ _, bthen h.bw g⟩
theorem Tg.alloc (h : Tg w C p0 p1 r m j t xs v) (o : Obj) : Tg w C p0 p1 r m j t xs (v.alloc o) := h.kept (balloc (Below.refl _ _) _)
theorem Tg.lt (h : Tg w C p0 p1 r m j t xs v) : C < v.heap.size := block_lt h.x.c0
theorem Tg.next (h : Tg w C p0 p1 r m j t xs v) {y : ByteArray} (ho : v'.ownsRow (C + 1) 9 1 t' (xs.length + 1) (xs.map Value.string ++ [.string y])) {o : Obj} (hg : (v.alloc o).grownBy v' t.ownBlock) : Tg w C p0 p1 r m j t' (xs ++ [y]) v' := by
  have b1 := balloc h.bw o
  have hlt := h.lt
  have hC := h.hC
  have b0 : Below (C + 1) v v' := ((Below.refl (C + 1) v).alloc (by omega) o).grown hg (by simp; omega) (fun q hq => by have := (h.own.lt q hq).1; omega)
  refine ⟨h.l0, ?_, hC, by simpa using ho, Below.refl _ _, b1.grown hg b1.size (fun q hq => by have := (h.own.lt q hq).1; omega)⟩
  exact h.x.same (fun o => b0.cell (p := ⟨C, o, none⟩) (by simp)) (fun o => b0.frozen (p := ⟨C, o, none⟩) (by simp))
end

/-- what Judge answers at one of both -/
def Jc (p0 p1 r m j who ratio k mo E : Int) : Prop := ∀ v, Calls Tryz.prog 44 #[.agg #[.int .i64 p0, .int .i64 p1, .int .i64 r, .int .i64 m, .int .i64 j], .int .i64 who, .int .i64 ratio] v fun e w' => ∃ a na ca b nb cb, e = .returned (.tuple #[.agg #[.int .i64 k, .int .i64 mo, .slice a na ca, .slice b nb cb], .int .i64 E]) ∧ Below v.heap.size v w'
def Lc (who k mo : Int) (l : ByteArray) : Prop := ∀ (a b : Option Addr) (na ca nb cb : Nat) v, Lw v → Calls Tryz.prog 45 #[.int .i64 who, .agg #[.int .i64 k, .int .i64 mo, .slice a na ca, .slice b nb cb]] v fun e w' => e = .returned (.string l) ∧ Below v.heap.size v w'
/-- two lines, as they lie -/
def LRow (w : World) (t : Value) (xs : List ByteArray) : Prop := ∃ g cap, t = .slice (some ⟨g, 0, none⟩) xs.length cap ∧ g < w.heap.size ∧ ∀ i x, xs[i]? = some x → w.cell? ⟨g, i, none⟩ = some (.string x)
theorem LRow.kept {w w' : World} {t : Value} {xs : List ByteArray} (h : LRow w t xs) (b : Below w.heap.size w w') : LRow w' t xs := by
  obtain ⟨g, cap, e, hg, hc⟩ := h
  exact ⟨g, cap, e, Nat.lt_of_lt_of_le hg b.size, fun i x hx => (b.cell (p := ⟨g, i, none⟩) hg).trans (hc i x hx)⟩
theorem own_lines {w : World} {base : Nat} {t : Value} {xs : List ByteArray} (h0 : 0 < xs.length) (h : w.ownsRow base 9 1 t xs.length (xs.map Value.string)) : LRow w t xs := by
  obtain ⟨hl, ⟨e, e2⟩ | ⟨g, cap, cur, e, hg, hh, hnc, _, hcs, htk⟩⟩ := h
  · omega
  · refine ⟨g, cap, e, lt_of_block hh, fun i x hx => ?_⟩
    have hi : i < xs.length := (List.getElem?_eq_some_iff.1 hx).1
    have f1 : (xs.map Value.string)[i]? = some (.string x) := by rw [List.getElem?_map, hx]; rfl
    rw [← htk, List.getElem?_take_of_lt (by omega)] at f1
    simp [World.cell?, hh]
    simpa using f1
set_option maxHeartbeats 6400000 in
theorem tell_err (s : ByteArray) (ratio : Int) (p0 p1 r m j F : Int) (hF : (F != 0) = true) (w : World) (L : Lw w)
    (y : ∀ v, Lw v → Calls Tryz.prog 43 #[.string s] v fun e w' => e = .returned (.tuple #[.agg #[.int .i64 p0, .int .i64 p1, .int .i64 r, .int .i64 m, .int .i64 j], .int .i64 F]) ∧ Below v.heap.size v w') :
    Calls Tryz.prog 27 #[.string s, .int .i64 ratio] w fun e w' => e = .returned (.tuple #[.slice none 0 0, .int .i64 F]) ∧ Below w.heap.size w w' := by
  go_enter Tryz.func27, Tryz.ntmps27
  go_wp2_with (go_at_call 43; with_reducible refine (y _ L).mono ?_; clear y; rintro e v1 ⟨rfl, b⟩; have B := balloc b (.cells #[.int .i64 p0, .int .i64 p1, .int .i64 r, .int .i64 m, .int .i64 j] 69); clear b)
  refine bodyPost_ret (v := .tuple #[.slice none 0 0, .int .i64 F]) (by simp [results, Tryz.results27, go_sem]) rfl ⟨rfl, B⟩
set_option maxHeartbeats 6400000 in
theorem tell_of (s : ByteArray) (ratio : Int) (p0 p1 r m j k0 m0 E0 k1 m1 E1 : Int) (l0 l1 : ByteArray) (w : World) (L : Lw w)
    (y : ∀ v, Lw v → Calls Tryz.prog 43 #[.string s] v fun e w' => e = .returned (.tuple #[.agg #[.int .i64 p0, .int .i64 p1, .int .i64 r, .int .i64 m, .int .i64 j], .int .i64 0]) ∧ Below v.heap.size v w')
    (J0 : Jc p0 p1 r m j 0 ratio k0 m0 E0) (J1 : Jc p0 p1 r m j 1 ratio k1 m1 E1) (N0 : Lc 0 k0 m0 l0) (N1 : Lc 1 k1 m1 l1) (b0 b1 : Bool) (h0 : (E0 != 0) = b0) (h1 : (E1 != 0) = b1) :
    Calls Tryz.prog 27 #[.string s, .int .i64 ratio] w fun e w' => (∃ t, e = .returned (.tuple #[t, .int .i64 (if b0 then E0 else if b1 then E1 else 0)]) ∧ (if b0 || b1 then t = .slice none 0 0 else LRow w' t [l0, l1])) ∧ Below w.heap.size w w' := by
  obtain ⟨i0, hi, hz0, hz1, hz2⟩ := info_parts infS
  replace J0 : Hid _ := J0
  replace J1 : Hid _ := J1
  replace N0 : Hid _ := N0
  replace N1 : Hid _ := N1
  go_enter Tryz.func27, Tryz.ntmps27
  go_wp2_with (go_at_call 43; with_reducible refine (y _ L).mono ?_; clear y; rintro e v1 ⟨rfl, b⟩; have X := Rul.new v1 _ rfl p0 p1 r m j; have hv := b.size; replace b := balloc b (.cells #[.int .i64 p0, .int .i64 p1, .int .i64 r, .int .i64 m, .int .i64 j] 69); have T : Tg w v1.heap.size p0 p1 r m j (.slice none 0 0) [] _ := ⟨L, X, hv, World.ownsRow_nil _ _ _ _, Below.refl _ _, b⟩; clear X b)
  go_loopw [20, 8] (fun i t wr => (i = .int .i64 0 ∧ t = .slice none 0 0 ∧ Tg w v1.heap.size p0 p1 r m j t [] wr) ∨ (i = .int .i64 1 ∧ b0 = false ∧ Tg w v1.heap.size p0 p1 r m j t [l0] wr) ∨ (i = .int .i64 2 ∧ b0 = false ∧ b1 = false ∧ Tg w v1.heap.size p0 p1 r m j t [l0, l1] wr)) (fun i _ _ => 2 - (intOf i).toNat)
  case atStart => exact .inl ⟨rfl, rfl, T⟩
  case round =>
    clear T
    rcases hrel with ⟨rfl, rfl, T⟩ | ⟨rfl, rfl, T⟩ | ⟨rfl, rfl, rfl, T⟩
    · clear J1 N1
      obtain ⟨x0, x1, x2, x3, x4, -, -, -, -, -⟩ := id T.x
      cases b0
      · go_wp2_with (first
          | (go_at_call 44; refine (J0.out _).mono ?_; clear J0 x0 x1 x2 x3 x4; rintro e v2 ⟨a, na, ca, b', nb, cb, rfl, b⟩; replace T := (T.kept b).alloc (.cells #[.int .i64 k0, .int .i64 m0, .slice a na ca, .slice b' nb cb] 74); clear b; replace N0 := Lib.hid (N0.out a b' na ca nb cb))
          | (go_at_call 45; refine (N0.out _ T.lw).mono ?_; clear N0; rintro e v3 ⟨rfl, b⟩; replace T := T.kept b; clear b; have hcn := Lib.hid (str_new v3 l0); have hT := T.lt)
          | (at_builtin; refine wpList_append_own _ rfl _ _ 51 rfl (v1.heap.size + 1) 9 i0 (.string ⟨#[]⟩) 1 16 Tryz.underlying51 hi hz0 hz1 hz2 rfl (by decide) _ _ _ rfl ((T.alloc (.cells #[.string l0] 9)).own) ⟨v3.heap.size, 0, none⟩ 1 1 [.string l0] rfl rfl hcn.out (by simp [Value.oneCell']) (by simp [maxLen]) (by simp) (by simp; omega) ?_; intro t' w2 ho hg _; replace T := T.next ho hg; clear ho hg))
        go_roundw
        case rel => exact .inr (.inl ⟨rfl, by first | rfl | trivial, T⟩)
        case measure => simp [intOf]
      · go_wp2_with (go_at_call 44; refine (J0.out _).mono ?_; clear J0 x0 x1 x2 x3 x4; rintro e v2 ⟨a, na, ca, b', nb, cb, rfl, b⟩; replace T := (T.kept b).alloc (.cells #[.int .i64 k0, .int .i64 m0, .slice a na ca, .slice b' nb cb] 74); clear b)
        refine bodyPost_ret (v := .tuple #[.slice none 0 0, .int .i64 E0]) (by simp [results, Tryz.results27, go_sem]) rfl ⟨rfl, T.bw⟩
    · clear J0 N0
      obtain ⟨x0, x1, x2, x3, x4, -, -, -, -, -⟩ := id T.x
      cases b1
      · go_wp2_with (first
          | (go_at_call 44; refine (J1.out _).mono ?_; clear J1 x0 x1 x2 x3 x4; rintro e v2 ⟨a, na, ca, b', nb, cb, rfl, b⟩; replace T := (T.kept b).alloc (.cells #[.int .i64 k1, .int .i64 m1, .slice a na ca, .slice b' nb cb] 74); clear b; replace N1 := Lib.hid (N1.out a b' na ca nb cb))
          | (go_at_call 45; refine (N1.out _ T.lw).mono ?_; clear N1; rintro e v3 ⟨rfl, b⟩; replace T := T.kept b; clear b; have hcn := Lib.hid (str_new v3 l1); have hT := T.lt)
          | (at_builtin; refine wpList_append_own _ rfl _ _ 51 rfl (v1.heap.size + 1) 9 i0 (.string ⟨#[]⟩) 1 16 Tryz.underlying51 hi hz0 hz1 hz2 rfl (by decide) _ _ _ rfl ((T.alloc (.cells #[.string l1] 9)).own) ⟨v3.heap.size, 0, none⟩ 1 1 [.string l1] rfl rfl hcn.out (by simp [Value.oneCell']) (by simp [maxLen]) (by simp) (by simp; omega) ?_; intro t' w2 ho hg _; replace T := T.next ho hg; clear ho hg))
        go_roundw
        case rel => exact .inr (.inr ⟨rfl, by first | rfl | trivial, by first | rfl | trivial, T⟩)
        case measure => simp [intOf]
      · go_wp2_with (go_at_call 44; refine (J1.out _).mono ?_; clear J1 x0 x1 x2 x3 x4; rintro e v2 ⟨a, na, ca, b', nb, cb, rfl, b⟩; replace T := (T.kept b).alloc (.cells #[.int .i64 k1, .int .i64 m1, .slice a na ca, .slice b' nb cb] 74); clear b)
        refine bodyPost_ret (v := .tuple #[.slice none 0 0, .int .i64 E1]) (by simp [results, Tryz.results27, go_sem]) rfl ⟨rfl, T.bw⟩
    · clear J0 N0 J1 N1
      obtain ⟨g, cap, rfl, hg, hc⟩ := own_lines (by simp) T.own
      go_wp2
      refine bodyPost_ret (v := .tuple #[.slice (some ⟨g, 0, none⟩) 2 cap, .int .i64 0]) (by simp [results, Tryz.results27, go_sem]) rfl ⟨⟨_, rfl, g, cap, rfl, hg, hc⟩, T.bw⟩

/-- what Tell answers: just the error, or two lines -/
def Tl (s : List UInt8) (ratio : Int) (E : Int) (l0 l1 : List UInt8) : Prop :=
  (E = 1 ∧ ∀ r, ¬ Rd s r) ∨ ∃ r, Rd s r ∧ ∃ k0 m0 E0 k1 m1 E1, Jv r 0 ratio k0 m0 E0 ∧ Jv r 1 ratio k1 m1 E1 ∧ l0 = ln 0 k0 m0 ∧ l1 = ln 1 k1 m1 ∧ E = if (E0 != 0) then E0 else if (E1 != 0) then E1 else 0
/-- in letters -/
theorem tell_any {s : ByteArray} (hs : s.size ≤ 140737488355328) {ratio E : Int} {l0 l1 : List UInt8} (h : Tl s.data.toList ratio E l0 l1) (w : World) (L : Lw w) :
    Calls Tryz.prog 27 #[.string s, .int .i64 ratio] w fun e w' => (∃ t, e = .returned (.tuple #[t, .int .i64 E]) ∧ ((E != 0) = true ∧ t = .slice none 0 0 ∨ (E != 0) = false ∧ LRow w' t [⟨l0.toArray⟩, ⟨l1.toArray⟩])) ∧ Below w.heap.size w w' := by
  rcases h with ⟨rfl, h⟩ | ⟨r, hr, k0, m0, E0, k1, m1, E1, j0, j1, rfl, rfl, rfl⟩
  · refine (tell_err s ratio 0 0 0 0 0 1 (by decide) w L (fun v l => parse_not s hs h v l)).mono ?_
    rintro e w' ⟨rfl, b⟩
    exact ⟨⟨_, rfl, .inl ⟨by decide, rfl⟩⟩, b⟩
  · have q := tell_of s ratio r.k0 r.k1 r.r r.m r.j k0 m0 E0 k1 m1 E1 ⟨(ln 0 k0 m0).toArray⟩ ⟨(ln 1 k1 m1).toArray⟩ w L (fun v l => parse_rd s hs r hr v l) (fun v => judge_jv j0 v) (fun v => judge_jv j1 v)
      (fun a b na ca nb cb v l => line_any 0 k0 m0 (by omega) j0.most a b na ca nb cb v l) (fun a b na ca nb cb v l => line_any 1 k1 m1 (by omega) j1.most a b na ca nb cb v l) _ _ rfl rfl
    refine q.mono ?_
    rintro e w' ⟨⟨t, rfl, ht⟩, b⟩
    refine ⟨⟨t, rfl, ?_⟩, b⟩
    cases h0 : (E0 != 0) <;> cases h1 : (E1 != 0)
    all_goals (rw [h0, h1] at ht; simp at ht)
    · exact .inr ⟨by simp, ht⟩
    · exact .inl ⟨by simpa using h1, ht⟩
    · exact .inl ⟨by simpa using h0, ht⟩
    · exact .inl ⟨by simpa using h0, ht⟩
end Go.Proofs.YtjageagnclmnjabGreatDoor.D
