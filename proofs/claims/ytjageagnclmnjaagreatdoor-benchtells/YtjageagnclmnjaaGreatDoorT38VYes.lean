/- PROVED: what bench.Tell answers. what the document's own way answers: clip, known, KRight, seen and KNext. what the document's own KNext answers. what the verifier's KNext answers where all is right. CONDITIONS: none beyond each theorem's own. -/
import Derived.Test.YtjageagnclmnjaaGreatDoorB37Lin
import Derived.Laws.AppendOwn
import Derived.Lib.Hide
import Derived.Test.YtjageagnclmnjaaGreatDoorB21KRight
namespace Go.Proofs.YtjageagnclmnjaaGreatDoor.D
set_option maxRecDepth 100000
open Go.RowKit K
set_option linter.unusedVariables false

theorem infS : (Tryz.prog.info? 9).map (fun i => (i.zero, i.size, i.bytes)) = some (some (.string ⟨#[]⟩), 1, 16) := by kernel_rfl
theorem str_new (w : World) (x : ByteArray) (j : Nat) (u : Value) (h : [Value.string x][j]? = some u) : (w.alloc (.cells #[.string x] 9)).cell? ((⟨w.heap.size, 0, none⟩ : Addr).add j) = some u := by
  rw [Addr.add_lit, Nat.zero_add]
  exact (World.cell?_alloc_at (w := w) #[.string x] 9 w.heap.size j rfl).trans (by simpa using h)
theorem ownS_kept {wr w1 : World} {base : Nat} {t : Value} {n : Nat} {xs : List Value} (h : wr.ownsRow base 9 1 t n xs) (b : Below wr.heap.size wr w1) : w1.ownsRow base 9 1 t n xs := by
  obtain ⟨hl, h2⟩ := h
  refine ⟨hl, ?_⟩
  rcases h2 with e | ⟨g, cap, cur, e, hg, hh, r⟩
  · exact .inl e
  · refine .inr ⟨g, cap, cur, e, hg, ?_, r⟩
    have : g < wr.heap.size := lt_of_block hh
    rw [b.block g this]; exact hh
/-- what lies there while lines are gathered: the rules in block C, ahead of all that is gathered -/
structure Tg (w : World) (C : Nat) (p0 p1 r m j : Int) (t : Value) (xs : List ByteArray) (v : World) : Prop where
  l0 : Lw w
  x : Rul v C p0 p1 r m j
  hC : w.heap.size ≤ C
  own : v.ownsRow (C + 1) 9 1 t xs.length (xs.map Value.string)
  b : Below (C + 1) v v
  bw : Below w.heap.size w v
section
variable {w v v' : World} {C : Nat} {p0 p1 r m j : Int} {t t' : Value} {xs : List ByteArray}
theorem Tg.lw (h : Tg w C p0 p1 r m j t xs v) : Lw v := h.l0.kept h.bw
theorem Tg.kept (h : Tg w C p0 p1 r m j t xs v) (g : Below v.heap.size v v') : Tg w C p0 p1 r m j t xs v' := ⟨h.l0, h.x.kept g, h.hC, ownS_kept h.own g, Below.refl _ _, bthen h.bw g⟩
theorem Tg.alloc (h : Tg w C p0 p1 r m j t xs v) (o : Obj) : Tg w C p0 p1 r m j t xs (v.alloc o) := h.kept (balloc (Below.refl _ _) _)
theorem Tg.lt (h : Tg w C p0 p1 r m j t xs v) : C < v.heap.size := block_lt h.x.c0
theorem Tg.next (h : Tg w C p0 p1 r m j t xs v) {y : ByteArray} (ho : v'.ownsRow (C + 1) 9 1 t' (xs.length + 1) (xs.map Value.string ++ [.string y])) {o : Obj} (hg : (v.alloc o).grownBy v' t.ownBlock) : Tg w C p0 p1 r m j t' (xs ++ [y]) v' := by
  have b1 := balloc h.bw o
  have hlt := h.lt
  have hC := h.hC
  have b0 : Below (C + 1) v v' := ((Below.refl (C + 1) v).alloc (by omega) o).grown hg (by simp; omega) (fun q hq => by have := (h.own.lt q hq).1; omega)
  refine ⟨h.l0, ?_, hC, by simpa using ho, Below.refl _ _, b1.grown hg b1.size (fun q hq => by have := (h.own.lt q hq).1; omega)⟩
  exact h.x.same (fun o => b0.cell (p := ⟨C, o, none⟩) (by simp)) (fun o => b0.frozen (p := ⟨C, o, none⟩) (by simp))
end

/-- what Judge answers at one of both -/
def Jc (p0 p1 r m j who ratio k mo E : Int) : Prop := ∀ v, Calls Tryz.prog 14 #[.agg #[.int .i64 p0, .int .i64 p1, .int .i64 r, .int .i64 m, .int .i64 j], .int .i64 who, .int .i64 ratio] v fun e w' => ∃ a na ca b nb cb, e = .returned (.tuple #[.agg #[.int .i64 k, .int .i64 mo, .slice a na ca, .slice b nb cb], .int .i64 E]) ∧ Below v.heap.size v w'
def Lc (who k mo : Int) (l : ByteArray) : Prop := ∀ (a b : Option Addr) (na ca nb cb : Nat) v, Lw v → Calls Tryz.prog 19 #[.int .i64 who, .agg #[.int .i64 k, .int .i64 mo, .slice a na ca, .slice b nb cb]] v fun e w' => e = .returned (.string l) ∧ Below v.heap.size v w'
/-- two lines, as they lie -/
def LRow (w : World) (t : Value) (xs : List ByteArray) : Prop := ∃ g cap, t = .slice (some ⟨g, 0, none⟩) xs.length cap ∧ g < w.heap.size ∧ ∀ i x, xs[i]? = some x → w.cell? ⟨g, i, none⟩ = some (.string x)
theorem own_lines {w : World} {base : Nat} {t : Value} {xs : List ByteArray} (h0 : 0 < xs.length) (h : w.ownsRow base 9 1 t xs.length (xs.map Value.string)) : LRow w t xs := by
  obtain ⟨hl, ⟨e, e2⟩ | ⟨g, cap, cur, e, hg, hh, hnc, _, hcs, htk⟩⟩ := h
  · omega
  · refine ⟨g, cap, e, lt_of_block hh, fun i x hx => ?_⟩
    have hi : i < xs.length := (List.getElem?_eq_some_iff.1 hx).1
    have f1 : (xs.map Value.string)[i]? = some (.string x) := by rw [List.getElem?_map, hx]; rfl
    rw [← htk, List.getElem?_take_of_lt (by omega)] at f1
    simp [World.cell?, hh]
    simpa using f1
set_option maxHeartbeats 6400000 in
theorem tell_err (s : ByteArray) (ratio : Int) (p0 p1 r m j F : Int) (hF : (F != 0) = true) (w : World) (L : Lw w)
    (y : ∀ v, Lw v → Calls Tryz.prog 13 #[.string s] v fun e w' => e = .returned (.tuple #[.agg #[.int .i64 p0, .int .i64 p1, .int .i64 r, .int .i64 m, .int .i64 j], .int .i64 F]) ∧ Below v.heap.size v w') :
    Calls Tryz.prog 7 #[.string s, .int .i64 ratio] w fun e w' => e = .returned (.tuple #[.slice none 0 0, .int .i64 F]) ∧ Below w.heap.size w w' := by
  go_enter Tryz.func7, Tryz.ntmps7
  go_wp2_with (go_at_call 13; with_reducible refine (y _ L).mono ?_; clear y; rintro e v1 ⟨rfl, b⟩; have B := balloc b (.cells #[.int .i64 p0, .int .i64 p1, .int .i64 r, .int .i64 m, .int .i64 j] 33); clear b)
  refine bodyPost_ret (v := .tuple #[.slice none 0 0, .int .i64 F]) (by simp [results, Tryz.results7, go_sem]) rfl ⟨rfl, B⟩
set_option maxHeartbeats 6400000 in
theorem tell_of (s : ByteArray) (ratio : Int) (p0 p1 r m j k0 m0 E0 k1 m1 E1 : Int) (l0 l1 : ByteArray) (w : World) (L : Lw w)
    (y : ∀ v, Lw v → Calls Tryz.prog 13 #[.string s] v fun e w' => e = .returned (.tuple #[.agg #[.int .i64 p0, .int .i64 p1, .int .i64 r, .int .i64 m, .int .i64 j], .int .i64 0]) ∧ Below v.heap.size v w')
    (J0 : Jc p0 p1 r m j 0 ratio k0 m0 E0) (J1 : Jc p0 p1 r m j 1 ratio k1 m1 E1) (N0 : Lc 0 k0 m0 l0) (N1 : Lc 1 k1 m1 l1) (b0 b1 : Bool) (h0 : (E0 != 0) = b0) (h1 : (E1 != 0) = b1) :
    Calls Tryz.prog 7 #[.string s, .int .i64 ratio] w fun e w' => (∃ t, e = .returned (.tuple #[t, .int .i64 (if b0 then E0 else if b1 then E1 else 0)]) ∧ (if b0 || b1 then t = .slice none 0 0 else LRow w' t [l0, l1])) ∧ Below w.heap.size w w' := by
  obtain ⟨i0, hi, hz0, hz1, hz2⟩ := info_parts infS
  replace J0 : Hid _ := J0
  replace J1 : Hid _ := J1
  replace N0 : Hid _ := N0
  replace N1 : Hid _ := N1
  go_enter Tryz.func7, Tryz.ntmps7
  go_wp2_with (go_at_call 13; with_reducible refine (y _ L).mono ?_; clear y; rintro e v1 ⟨rfl, b⟩; have X := Rul.new v1 _ rfl p0 p1 r m j; have hv := b.size; replace b := balloc b (.cells #[.int .i64 p0, .int .i64 p1, .int .i64 r, .int .i64 m, .int .i64 j] 33); have T : Tg w v1.heap.size p0 p1 r m j (.slice none 0 0) [] _ := ⟨L, X, hv, World.ownsRow_nil _ _ _ _, Below.refl _ _, b⟩; clear X b)
  go_loopw [20, 8] (fun i t wr => (i = .int .i64 0 ∧ t = .slice none 0 0 ∧ Tg w v1.heap.size p0 p1 r m j t [] wr) ∨ (i = .int .i64 1 ∧ b0 = false ∧ Tg w v1.heap.size p0 p1 r m j t [l0] wr) ∨ (i = .int .i64 2 ∧ b0 = false ∧ b1 = false ∧ Tg w v1.heap.size p0 p1 r m j t [l0, l1] wr)) (fun i _ _ => 2 - (intOf i).toNat)
  case atStart => exact .inl ⟨rfl, rfl, T⟩
  case round =>
    clear T
    rcases hrel with ⟨rfl, rfl, T⟩ | ⟨rfl, rfl, T⟩ | ⟨rfl, rfl, rfl, T⟩
    · clear J1 N1
      obtain ⟨x0, x1, x2, x3, x4, -, -, -, -, -⟩ := id T.x
      cases b0
      · go_wp2_with (first
          | (go_at_call 14; refine (J0.out _).mono ?_; clear J0 x0 x1 x2 x3 x4; rintro e v2 ⟨a, na, ca, b', nb, cb, rfl, b⟩; replace T := (T.kept b).alloc (.cells #[.int .i64 k0, .int .i64 m0, .slice a na ca, .slice b' nb cb] 37); clear b; replace N0 := Lib.hid (N0.out a b' na ca nb cb))
          | (go_at_call 19; refine (N0.out _ T.lw).mono ?_; clear N0; rintro e v3 ⟨rfl, b⟩; replace T := T.kept b; clear b; have hcn := Lib.hid (str_new v3 l0); have hT := T.lt)
          | (at_builtin; refine wpList_append_own _ rfl _ _ 22 rfl (v1.heap.size + 1) 9 i0 (.string ⟨#[]⟩) 1 16 Tryz.underlying22 hi hz0 hz1 hz2 rfl (by decide) _ _ _ rfl ((T.alloc (.cells #[.string l0] 9)).own) ⟨v3.heap.size, 0, none⟩ 1 1 [.string l0] rfl rfl hcn.out (by simp [Value.oneCell']) (by simp [maxLen]) (by simp) (by simp; omega) ?_; intro t' w2 ho hg _; replace T := T.next ho hg; clear ho hg))
        go_roundw
        case rel => exact .inr (.inl ⟨rfl, by first | rfl | trivial, T⟩)
        case measure => simp [intOf]
      · go_wp2_with (go_at_call 14; refine (J0.out _).mono ?_; clear J0 x0 x1 x2 x3 x4; rintro e v2 ⟨a, na, ca, b', nb, cb, rfl, b⟩; replace T := (T.kept b).alloc (.cells #[.int .i64 k0, .int .i64 m0, .slice a na ca, .slice b' nb cb] 37); clear b)
        refine bodyPost_ret (v := .tuple #[.slice none 0 0, .int .i64 E0]) (by simp [results, Tryz.results7, go_sem]) rfl ⟨rfl, T.bw⟩
    · clear J0 N0
      obtain ⟨x0, x1, x2, x3, x4, -, -, -, -, -⟩ := id T.x
      cases b1
      · go_wp2_with (first
          | (go_at_call 14; refine (J1.out _).mono ?_; clear J1 x0 x1 x2 x3 x4; rintro e v2 ⟨a, na, ca, b', nb, cb, rfl, b⟩; replace T := (T.kept b).alloc (.cells #[.int .i64 k1, .int .i64 m1, .slice a na ca, .slice b' nb cb] 37); clear b; replace N1 := Lib.hid (N1.out a b' na ca nb cb))
          | (go_at_call 19; refine (N1.out _ T.lw).mono ?_; clear N1; rintro e v3 ⟨rfl, b⟩; replace T := T.kept b; clear b; have hcn := Lib.hid (str_new v3 l1); have hT := T.lt)
          | (at_builtin; refine wpList_append_own _ rfl _ _ 22 rfl (v1.heap.size + 1) 9 i0 (.string ⟨#[]⟩) 1 16 Tryz.underlying22 hi hz0 hz1 hz2 rfl (by decide) _ _ _ rfl ((T.alloc (.cells #[.string l1] 9)).own) ⟨v3.heap.size, 0, none⟩ 1 1 [.string l1] rfl rfl hcn.out (by simp [Value.oneCell']) (by simp [maxLen]) (by simp) (by simp; omega) ?_; intro t' w2 ho hg _; replace T := T.next ho hg; clear ho hg))
        go_roundw
        case rel => exact .inr (.inr ⟨rfl, by first | rfl | trivial, by first | rfl | trivial, T⟩)
        case measure => simp [intOf]
      · go_wp2_with (go_at_call 14; refine (J1.out _).mono ?_; clear J1 x0 x1 x2 x3 x4; rintro e v2 ⟨a, na, ca, b', nb, cb, rfl, b⟩; replace T := (T.kept b).alloc (.cells #[.int .i64 k1, .int .i64 m1, .slice a na ca, .slice b' nb cb] 37); clear b)
        refine bodyPost_ret (v := .tuple #[.slice none 0 0, .int .i64 E1]) (by simp [results, Tryz.results7, go_sem]) rfl ⟨rfl, T.bw⟩
    · clear J0 N0 J1 N1
      obtain ⟨g, cap, rfl, hg, hc⟩ := own_lines (by simp) T.own
      go_wp2
      refine bodyPost_ret (v := .tuple #[.slice (some ⟨g, 0, none⟩) 2 cap, .int .i64 0]) (by simp [results, Tryz.results7, go_sem]) rfl ⟨⟨_, rfl, g, cap, rfl, hg, hc⟩, T.bw⟩

/-- what Tell answers: just the error, or two lines -/
def Tl (s : List UInt8) (ratio : Int) (E : Int) (l0 l1 : List UInt8) : Prop :=
  (E = 1 ∧ ∀ r, ¬ Rd s r) ∨ ∃ r, Rd s r ∧ ∃ k0 m0 E0 k1 m1 E1, Jv r 0 ratio k0 m0 E0 ∧ Jv r 1 ratio k1 m1 E1 ∧ l0 = ln 0 k0 m0 ∧ l1 = ln 1 k1 m1 ∧ E = if (E0 != 0) then E0 else if (E1 != 0) then E1 else 0
theorem tl_some (s : List UInt8) (ratio : Int) : ∃ E l0 l1, Tl s ratio E l0 l1 := by
  by_cases h : ∃ r, Rd s r
  · obtain ⟨r, h⟩ := h
    obtain ⟨k0, m0, E0, h0⟩ := jv_some r 0 ratio
    obtain ⟨k1, m1, E1, h1⟩ := jv_some r 1 ratio
    exact ⟨_, _, _, .inr ⟨r, h, k0, m0, E0, k1, m1, E1, h0, h1, rfl, rfl, rfl⟩⟩
  · exact ⟨1, [], [], .inl ⟨rfl, fun r hr => h ⟨r, hr⟩⟩⟩
/-- in letters -/
theorem tell_any {s : ByteArray} (hs : s.size ≤ 140737488355328) {ratio E : Int} {l0 l1 : List UInt8} (h : Tl s.data.toList ratio E l0 l1) (w : World) (L : Lw w) :
    Calls Tryz.prog 7 #[.string s, .int .i64 ratio] w fun e w' => (∃ t, e = .returned (.tuple #[t, .int .i64 E]) ∧ ((E != 0) = true ∧ t = .slice none 0 0 ∨ (E != 0) = false ∧ LRow w' t [⟨l0.toArray⟩, ⟨l1.toArray⟩])) ∧ Below w.heap.size w w' := by
  rcases h with ⟨rfl, h⟩ | ⟨r, hr, k0, m0, E0, k1, m1, E1, j0, j1, rfl, rfl, rfl⟩
  · refine (tell_err s ratio 0 0 0 0 0 1 (by decide) w L (fun v l => parse_not s hs h v l)).mono ?_
    rintro e w' ⟨rfl, b⟩
    exact ⟨⟨_, rfl, .inl ⟨by decide, rfl⟩⟩, b⟩
  · have q := tell_of s ratio r.k0 r.k1 r.r r.m r.j k0 m0 E0 k1 m1 E1 ⟨(ln 0 k0 m0).toArray⟩ ⟨(ln 1 k1 m1).toArray⟩ w L (fun v l => parse_rd s hs r hr v l) (fun v => judge_jv j0 v) (fun v => judge_jv j1 v)
      (fun a b na ca nb cb v l => line_any 0 k0 m0 (by omega) j0.most a b na ca nb cb v l) (fun a b na ca nb cb v l => line_any 1 k1 m1 (by omega) j1.most a b na ca nb cb v l) _ _ rfl rfl
    refine q.mono ?_
    rintro e w' ⟨⟨t, rfl, ht⟩, b⟩
    refine ⟨⟨t, rfl, ?_⟩, b⟩
    cases h0 : (E0 != 0) <;> cases h1 : (E1 != 0)
    all_goals (rw [h0, h1] at ht; simp at ht)
    · exact .inr ⟨by simp, ht⟩
    · exact .inl ⟨by simpa using h1, ht⟩
    · exact .inl ⟨by simpa using h0, ht⟩
    · exact .inl ⟨by simpa using h0, ht⟩
end Go.Proofs.YtjageagnclmnjaaGreatDoor.D

namespace Go.Proofs.YtjageagnclmnjaaGreatDoor.V
open Go.RowKit
set_option linter.unusedVariables false

theorem clip_any (n : Int) (w : World) :
    Calls Tryz.prog 159 #[.int .i64 n] w fun e w' => e = .returned (.int .i64 (clip n)) ∧ w' = w := by
  by_cases h1 : n < 1
  · rw [show clip n = 1 by unfold clip; omega]
    go_enter Tryz.func159, Tryz.ntmps159
    go_wp2
    go_ret
    exact ⟨rfl, rfl⟩
  · by_cases h2 : 12 < n
    · rw [show clip n = 12 by unfold clip; omega]
      go_enter Tryz.func159, Tryz.ntmps159
      go_wp2
      go_ret
      exact ⟨rfl, rfl⟩
    · rw [show clip n = n by unfold clip; omega]
      go_enter Tryz.func159, Tryz.ntmps159
      go_wp2
      go_ret
      exact ⟨rfl, rfl⟩

/-- what all of them have -/
def knownC (n b : Int) : Prop := (1 ≤ n ∧ n ≤ 12) ∧ -1 ≤ b ∧ b ≤ 1099511627776
instance (n b : Int) : Decidable (knownC n b) := by unfold knownC; infer_instance

set_option maxHeartbeats 1600000 in
theorem known_of (k n b a s q m : Int) (w : World) (c : ∀ v, Calls Tryz.prog 159 #[.int .i64 n] v fun e w' => e = .returned (.int .i64 m) ∧ w' = v) (t1 t2 t3 : Bool) (h1 : (n == m) = t1) (h2 : decide (-1 ≤ b) = t2) (h3 : decide (b ≤ 1099511627776) = t3) :
    Calls Tryz.prog 169 #[.agg #[.int .i64 k, .int .i64 n, .int .i64 b, .int .i64 a, .int .i64 s, .int .i64 q]] w fun e w' => e = .returned (.bool (t1 && (t2 && t3))) ∧ Below w.heap.size w w' := by
  have X := Ctl.new w _ rfl k n b a s q
  obtain ⟨c0, c1, c2, c3, c4, c5, f0, f1, f2, f3, f4, f5⟩ := X
  have bb : Below w.heap.size w (w.alloc (.cells #[.int .i64 k, .int .i64 n, .int .i64 b, .int .i64 a, .int .i64 s, .int .i64 q] 42)) := balloc (Below.refl _ _) _
  cases t1
  · go_enter Tryz.func169, Tryz.ntmps169
    go_wp2
    go_quiet ((go_at_call 159; refine (c _).mono ?_; rintro e w'' ⟨rfl, rfl⟩; exact ⟨rfl, _, rfl⟩))
    go_wp2
    go_ret
    exact ⟨rfl, below_drewN bb _⟩
  · cases t2
    · go_enter Tryz.func169, Tryz.ntmps169
      go_wp2
      go_quiet ((go_at_call 159; refine (c _).mono ?_; rintro e w'' ⟨rfl, rfl⟩; exact ⟨rfl, _, rfl⟩))
      go_wp2
      go_ret
      exact ⟨rfl, below_drewN bb _⟩
    · cases t3
      all_goals
        go_enter Tryz.func169, Tryz.ntmps169
        go_wp2
        go_quiet ((go_at_call 159; refine (c _).mono ?_; rintro e w'' ⟨rfl, rfl⟩; exact ⟨rfl, _, rfl⟩))
        go_wp2
        go_ret
        exact ⟨rfl, below_drewN bb _⟩

theorem known_any (k n b a s q : Int) (w : World) :
    Calls Tryz.prog 169 #[.agg #[.int .i64 k, .int .i64 n, .int .i64 b, .int .i64 a, .int .i64 s, .int .i64 q]] w fun e w' => e = .returned (.bool (decide (knownC n b))) ∧ Below w.heap.size w w' := by
  have := known_of k n b a s q (clip n) w (clip_any n) _ _ _ rfl rfl rfl
  rw [show (n == clip n && (decide (-1 ≤ b) && decide (b ≤ 1099511627776))) = decide (knownC n b) by
    rw [Bool.eq_iff_iff, Bool.and_eq_true, Bool.and_eq_true, decide_eq_true_iff, decide_eq_true_iff, decide_eq_true_iff, beq_iff_eq]
    unfold knownC clip
    omega] at this
  exact this

set_option maxHeartbeats 1600000 in
theorem kright_of (k n b a s q : Int) (w : World) (t0 t1 t2 t3 t4 : Bool) (kn : ∀ v, Calls Tryz.prog 169 #[.agg #[.int .i64 k, .int .i64 n, .int .i64 b, .int .i64 a, .int .i64 s, .int .i64 q]] v fun e w' => e = .returned (.bool t1) ∧ Below v.heap.size v w') (h0 : (k == 1) = t0) (h2 : (a == 0) = t2) (h3 : (s == 0) = t3) (h4 : (q == 0) = t4) :
    Calls Tryz.prog 157 #[.agg #[.int .i64 k, .int .i64 n, .int .i64 b, .int .i64 a, .int .i64 s, .int .i64 q]] w fun e w' => e = .returned (.bool (t0 && (t1 && (t2 && (t3 && t4))))) ∧ Below w.heap.size w w' := by
  have X := Ctl.new w _ rfl k n b a s q
  obtain ⟨c0, c1, c2, c3, c4, c5, f0, f1, f2, f3, f4, f5⟩ := X
  have bb : Below w.heap.size w (w.alloc (.cells #[.int .i64 k, .int .i64 n, .int .i64 b, .int .i64 a, .int .i64 s, .int .i64 q] 42)) := balloc (Below.refl _ _) _
  cases t0
  · go_enter Tryz.func157, Tryz.ntmps157
    go_wp2
    go_ret
    exact ⟨rfl, bb⟩
  · cases t1
    · go_enter Tryz.func157, Tryz.ntmps157
      go_wp2_with (go_at_call 169; refine (kn _).mono ?_; rintro e v1 ⟨rfl, b1⟩; clear kn; have X2 := (Ctl.kept ⟨c0, c1, c2, c3, c4, c5, f0, f1, f2, f3, f4, f5⟩ b1); clear c0 c1 c2 c3 c4 c5 f0 f1 f2 f3 f4 f5; obtain ⟨c0, c1, c2, c3, c4, c5, f0, f1, f2, f3, f4, f5⟩ := X2; replace bb := bthen bb b1)
      go_ret
      exact ⟨rfl, bb⟩
    · cases t2
      · go_enter Tryz.func157, Tryz.ntmps157
        go_wp2_with (go_at_call 169; refine (kn _).mono ?_; rintro e v1 ⟨rfl, b1⟩; clear kn; have X2 := (Ctl.kept ⟨c0, c1, c2, c3, c4, c5, f0, f1, f2, f3, f4, f5⟩ b1); clear c0 c1 c2 c3 c4 c5 f0 f1 f2 f3 f4 f5; obtain ⟨c0, c1, c2, c3, c4, c5, f0, f1, f2, f3, f4, f5⟩ := X2; replace bb := bthen bb b1)
        go_ret
        exact ⟨rfl, bb⟩
      · cases t3
        · go_enter Tryz.func157, Tryz.ntmps157
          go_wp2_with (go_at_call 169; refine (kn _).mono ?_; rintro e v1 ⟨rfl, b1⟩; clear kn; have X2 := (Ctl.kept ⟨c0, c1, c2, c3, c4, c5, f0, f1, f2, f3, f4, f5⟩ b1); clear c0 c1 c2 c3 c4 c5 f0 f1 f2 f3 f4 f5; obtain ⟨c0, c1, c2, c3, c4, c5, f0, f1, f2, f3, f4, f5⟩ := X2; replace bb := bthen bb b1)
          go_ret
          exact ⟨rfl, bb⟩
        · cases t4
          all_goals
            go_enter Tryz.func157, Tryz.ntmps157
            go_wp2_with (go_at_call 169; refine (kn _).mono ?_; rintro e v1 ⟨rfl, b1⟩; clear kn; have X2 := (Ctl.kept ⟨c0, c1, c2, c3, c4, c5, f0, f1, f2, f3, f4, f5⟩ b1); clear c0 c1 c2 c3 c4 c5 f0 f1 f2 f3 f4 f5; obtain ⟨c0, c1, c2, c3, c4, c5, f0, f1, f2, f3, f4, f5⟩ := X2; replace bb := bthen bb b1)
            go_ret
            exact ⟨rfl, bb⟩

theorem kright_any (k n b a s q : Int) (w : World) :
    Calls Tryz.prog 157 #[.agg #[.int .i64 k, .int .i64 n, .int .i64 b, .int .i64 a, .int .i64 s, .int .i64 q]] w fun e w' => e = .returned (.bool (decide (kright k n b a s q))) ∧ Below w.heap.size w w' := by
  have := kright_of k n b a s q w _ _ _ _ _ (known_any k n b a s q) rfl rfl rfl rfl
  rw [show (k == 1 && (decide (knownC n b) && (a == 0 && (s == 0 && q == 0)))) = decide (kright k n b a s q) by
    rw [Bool.eq_iff_iff, Bool.and_eq_true, Bool.and_eq_true, Bool.and_eq_true, Bool.and_eq_true, decide_eq_true_iff, decide_eq_true_iff, beq_iff_eq, beq_iff_eq, beq_iff_eq, beq_iff_eq]
    unfold knownC kright
    omega] at this
  exact this

set_option maxHeartbeats 1600000 in
theorem seen_of (k n b a s q d B x : Int) (w : World) (hb0 : -1 ≤ b) (hb1 : b ≤ 1099511627776) (hd0 : 0 ≤ d) (hd1 : d ≤ 1099511627776) (hB : b = -1 ∧ d = B ∨ b ≠ -1 ∧ min b d = B) (hx : d - B = x) (hx0 : 0 ≤ x) (hx1 : x ≤ 1099511627776) :
    Calls Tryz.prog 158 #[.agg #[.int .i64 k, .int .i64 n, .int .i64 b, .int .i64 a, .int .i64 s, .int .i64 q], .int .i64 d] w fun e w' => e = .returned (.tuple #[.agg #[.int .i64 k, .int .i64 n, .int .i64 B, .int .i64 a, .int .i64 s, .int .i64 q], .int .i64 x]) ∧ Below w.heap.size w w' := by
  rcases hB with ⟨rfl, rfl⟩ | ⟨hb, hB⟩
  · obtain rfl : 0 = x := by omega
    clear hx
    go_enter Tryz.func158, Tryz.ntmps158
    go_wp2
    go_region
    all_goals go_wp2
    all_goals refine bodyPost_ret (v := .tuple #[.agg #[.int .i64 k, .int .i64 n, .int .i64 d, .int .i64 a, .int .i64 s, .int .i64 q], .int .i64 0]) (by simp [results, Tryz.results158, go_sem]) rfl ⟨rfl, ?_⟩
    all_goals (first | exact Below.drew (balloc (balloc (Below.refl _ _) _) _) | exact balloc (balloc (Below.refl _ _) _) _)
  · go_enter Tryz.func158, Tryz.ntmps158
    go_wp2
    go_region
    all_goals go_wp2
    all_goals refine bodyPost_ret (v := .tuple #[.agg #[.int .i64 k, .int .i64 n, .int .i64 B, .int .i64 a, .int .i64 s, .int .i64 q], .int .i64 x]) (by simp [results, Tryz.results158, go_sem]) rfl ⟨rfl, ?_⟩
    all_goals (first | exact Below.drew (balloc (balloc (Below.refl _ _) _) _) | exact balloc (balloc (Below.refl _ _) _) _)

end Go.Proofs.YtjageagnclmnjaaGreatDoor.V

namespace Go.Proofs.YtjageagnclmnjaaGreatDoor.V
open Go.RowKit
set_option linter.unusedVariables false

set_option maxHeartbeats 1600000 in
theorem ref_more (n b d V B x p : Int) (w : World) (hn : 1 ≤ n ∧ n ≤ 12) (r : ∀ v, Calls Tryz.prog 157 #[.agg #[.int .i64 1, .int .i64 n, .int .i64 b, .int .i64 0, .int .i64 0, .int .i64 0]] v fun e w' => e = .returned (.bool true) ∧ Below v.heap.size v w')
    (sn : ∀ v, Calls Tryz.prog 158 #[.agg #[.int .i64 1, .int .i64 n, .int .i64 b, .int .i64 0, .int .i64 0, .int .i64 0], .int .i64 d] v fun e w' => e = .returned (.tuple #[.agg #[.int .i64 1, .int .i64 n, .int .i64 B, .int .i64 0, .int .i64 0, .int .i64 0], .int .i64 x]) ∧ Below v.heap.size v w')
    (c : ∀ v, Calls Tryz.prog 159 #[.int .i64 (n + 1)] v fun e w' => e = .returned (.int .i64 V) ∧ w' = v) (h0 : 0 ≤ d) (h1 : d ≤ 1099511627776) (hp : n * x = p) (hp0 : 0 ≤ p) (hp1 : p ≤ 13194139533312)
    (h2 : decide (p < 1 + d) = true) :
    Calls Tryz.prog 135 #[.agg #[.int .i64 1, .int .i64 n, .int .i64 b, .int .i64 0, .int .i64 0, .int .i64 0], .int .i64 d] w fun e w' => e = .returned (.tuple #[.agg #[.int .i64 1, .int .i64 V, .int .i64 B, .int .i64 0, .int .i64 0, .int .i64 0], .int .i64 0]) ∧ Below w.heap.size w w' := by
  go_enter Tryz.func135, Tryz.ntmps135
  go_wp2_with (first
    | (go_at_call 157; refine (r _).mono ?_; rintro e w1 ⟨rfl, HB⟩; obtain ⟨X, Y⟩ := two HB; clear r; replace HB := up2 HB; obtain ⟨c0, c1, c2, c3, c4, c5, f0, f1, f2, f3, f4, f5⟩ := X)
    | (go_at_call 158; refine (sn _).mono ?_; rintro e w2 ⟨rfl, b2⟩; clear sn; have X2 := (Ctl.kept ⟨c0, c1, c2, c3, c4, c5, f0, f1, f2, f3, f4, f5⟩ b2); clear c0 c1 c2 c3 c4 c5 f0 f1 f2 f3 f4 f5; replace Y := Y.kept b2; replace HB := bthen HB b2; clear b2; obtain ⟨c0, c1, c2, c3, c4, c5, f0, f1, f2, f3, f4, f5⟩ := X2; obtain ⟨d0, d1, d2, d3, d4, d5, g0, g1, g2, g3, g4, g5⟩ := Y; have z1 : w.heap.size < w2.heap.size := block_lt c0; have z2 : w.heap.size + 1 < w2.heap.size := block_lt d0)
    | (go_at_call 159; refine (c _).mono ?_; rintro e w' ⟨rfl, rfl⟩; clear c))
  refine bodyPost_ret (v := .tuple #[.agg #[.int .i64 1, .int .i64 V, .int .i64 B, .int .i64 0, .int .i64 0, .int .i64 0], .int .i64 0]) (by simp [results, Tryz.results135, go_sem, d0, d1, d2, d3, d4, d5, z2]) rfl ⟨rfl, ?_⟩
  refine balloc ?_ _
  repeat (refine Below.setCell ?_ (by simp) _)
  exact HB

set_option maxHeartbeats 1600000 in
theorem ref_less (n b d V B x p : Int) (w : World) (hn : 1 ≤ n ∧ n ≤ 12) (r : ∀ v, Calls Tryz.prog 157 #[.agg #[.int .i64 1, .int .i64 n, .int .i64 b, .int .i64 0, .int .i64 0, .int .i64 0]] v fun e w' => e = .returned (.bool true) ∧ Below v.heap.size v w')
    (sn : ∀ v, Calls Tryz.prog 158 #[.agg #[.int .i64 1, .int .i64 n, .int .i64 b, .int .i64 0, .int .i64 0, .int .i64 0], .int .i64 d] v fun e w' => e = .returned (.tuple #[.agg #[.int .i64 1, .int .i64 n, .int .i64 B, .int .i64 0, .int .i64 0, .int .i64 0], .int .i64 x]) ∧ Below v.heap.size v w')
    (c : ∀ v, Calls Tryz.prog 159 #[.int .i64 (n - 1)] v fun e w' => e = .returned (.int .i64 V) ∧ w' = v) (h0 : 0 ≤ d) (h1 : d ≤ 1099511627776) (hp : n * x = p) (hp0 : 0 ≤ p) (hp1 : p ≤ 13194139533312)
    (h2 : decide (p < 1 + d) = false) (h3 : decide (3 * (1 + d) ≤ p) = true) :
    Calls Tryz.prog 135 #[.agg #[.int .i64 1, .int .i64 n, .int .i64 b, .int .i64 0, .int .i64 0, .int .i64 0], .int .i64 d] w fun e w' => e = .returned (.tuple #[.agg #[.int .i64 1, .int .i64 V, .int .i64 B, .int .i64 0, .int .i64 0, .int .i64 0], .int .i64 0]) ∧ Below w.heap.size w w' := by
  go_enter Tryz.func135, Tryz.ntmps135
  go_wp2_with (first
    | (go_at_call 157; refine (r _).mono ?_; rintro e w1 ⟨rfl, HB⟩; obtain ⟨X, Y⟩ := two HB; clear r; replace HB := up2 HB; obtain ⟨c0, c1, c2, c3, c4, c5, f0, f1, f2, f3, f4, f5⟩ := X)
    | (go_at_call 158; refine (sn _).mono ?_; rintro e w2 ⟨rfl, b2⟩; clear sn; have X2 := (Ctl.kept ⟨c0, c1, c2, c3, c4, c5, f0, f1, f2, f3, f4, f5⟩ b2); clear c0 c1 c2 c3 c4 c5 f0 f1 f2 f3 f4 f5; replace Y := Y.kept b2; replace HB := bthen HB b2; clear b2; obtain ⟨c0, c1, c2, c3, c4, c5, f0, f1, f2, f3, f4, f5⟩ := X2; obtain ⟨d0, d1, d2, d3, d4, d5, g0, g1, g2, g3, g4, g5⟩ := Y; have z1 : w.heap.size < w2.heap.size := block_lt c0; have z2 : w.heap.size + 1 < w2.heap.size := block_lt d0)
    | (go_at_call 159; refine (c _).mono ?_; rintro e w' ⟨rfl, rfl⟩; clear c))
  refine bodyPost_ret (v := .tuple #[.agg #[.int .i64 1, .int .i64 V, .int .i64 B, .int .i64 0, .int .i64 0, .int .i64 0], .int .i64 0]) (by simp [results, Tryz.results135, go_sem, d0, d1, d2, d3, d4, d5, z2]) rfl ⟨rfl, ?_⟩
  refine balloc ?_ _
  repeat (refine Below.setCell ?_ (by simp) _)
  exact HB

set_option maxHeartbeats 1600000 in
theorem ref_stay (n b d V B x p : Int) (w : World) (hn : 1 ≤ n ∧ n ≤ 12) (r : ∀ v, Calls Tryz.prog 157 #[.agg #[.int .i64 1, .int .i64 n, .int .i64 b, .int .i64 0, .int .i64 0, .int .i64 0]] v fun e w' => e = .returned (.bool true) ∧ Below v.heap.size v w')
    (sn : ∀ v, Calls Tryz.prog 158 #[.agg #[.int .i64 1, .int .i64 n, .int .i64 b, .int .i64 0, .int .i64 0, .int .i64 0], .int .i64 d] v fun e w' => e = .returned (.tuple #[.agg #[.int .i64 1, .int .i64 n, .int .i64 B, .int .i64 0, .int .i64 0, .int .i64 0], .int .i64 x]) ∧ Below v.heap.size v w')
    (c : ∀ v, Calls Tryz.prog 159 #[.int .i64 n] v fun e w' => e = .returned (.int .i64 V) ∧ w' = v) (h0 : 0 ≤ d) (h1 : d ≤ 1099511627776) (hp : n * x = p) (hp0 : 0 ≤ p) (hp1 : p ≤ 13194139533312)
    (h2 : decide (p < 1 + d) = false) (h3 : decide (3 * (1 + d) ≤ p) = false) :
    Calls Tryz.prog 135 #[.agg #[.int .i64 1, .int .i64 n, .int .i64 b, .int .i64 0, .int .i64 0, .int .i64 0], .int .i64 d] w fun e w' => e = .returned (.tuple #[.agg #[.int .i64 1, .int .i64 V, .int .i64 B, .int .i64 0, .int .i64 0, .int .i64 0], .int .i64 0]) ∧ Below w.heap.size w w' := by
  go_enter Tryz.func135, Tryz.ntmps135
  go_wp2_with (first
    | (go_at_call 157; refine (r _).mono ?_; rintro e w1 ⟨rfl, HB⟩; obtain ⟨X, Y⟩ := two HB; clear r; replace HB := up2 HB; obtain ⟨c0, c1, c2, c3, c4, c5, f0, f1, f2, f3, f4, f5⟩ := X)
    | (go_at_call 158; refine (sn _).mono ?_; rintro e w2 ⟨rfl, b2⟩; clear sn; have X2 := (Ctl.kept ⟨c0, c1, c2, c3, c4, c5, f0, f1, f2, f3, f4, f5⟩ b2); clear c0 c1 c2 c3 c4 c5 f0 f1 f2 f3 f4 f5; replace Y := Y.kept b2; replace HB := bthen HB b2; clear b2; obtain ⟨c0, c1, c2, c3, c4, c5, f0, f1, f2, f3, f4, f5⟩ := X2; obtain ⟨d0, d1, d2, d3, d4, d5, g0, g1, g2, g3, g4, g5⟩ := Y; have z1 : w.heap.size < w2.heap.size := block_lt c0; have z2 : w.heap.size + 1 < w2.heap.size := block_lt d0)
    | (go_at_call 159; refine (c _).mono ?_; rintro e w' ⟨rfl, rfl⟩; clear c))
  refine bodyPost_ret (v := .tuple #[.agg #[.int .i64 1, .int .i64 V, .int .i64 B, .int .i64 0, .int .i64 0, .int .i64 0], .int .i64 0]) (by simp [results, Tryz.results135, go_sem, d0, d1, d2, d3, d4, d5, z2]) rfl ⟨rfl, ?_⟩
  refine balloc ?_ _
  repeat (refine Below.setCell ?_ (by simp) _)
  exact HB

end Go.Proofs.YtjageagnclmnjaaGreatDoor.V

namespace Go.Proofs.YtjageagnclmnjaaGreatDoor.V
open Go.RowKit

theorem ref_yes (k n b a s q d : Int) (w : World) (h : kright k n b a s q) (hd : inr d) :
    Calls Tryz.prog 135 #[.agg #[.int .i64 k, .int .i64 n, .int .i64 b, .int .i64 a, .int .i64 s, .int .i64 q], .int .i64 d] w fun e w' => e = .returned (.tuple #[.agg #[.int .i64 1, .int .i64 (nw n (d - nb b d) d), .int .i64 (nb b d), .int .i64 0, .int .i64 0, .int .i64 0], .int .i64 0]) ∧ Below w.heap.size w w' := by
  have r := fun v => kright_any k n b a s q v
  rw [decide_eq_true h] at r
  obtain ⟨hB0, hB1, hB2, hx0, hx1⟩ := nb_in (b := b) hd
  obtain ⟨rfl, hn, ⟨hb0, hb1⟩, rfl, rfl, rfl⟩ := h
  obtain ⟨h0, h1⟩ := hd
  have sn := fun v => seen_of 1 n b 0 0 0 d (nb b d) (d - nb b d) v hb0 hb1 h0 h1 (by unfold nb; split <;> omega) rfl hx0 hx1
  obtain ⟨p0, p1⟩ := mul_in (n := n) (x := d - nb b d) hn hx0 hx1
  generalize nb b d = B at *
  generalize d - B = x at *
  unfold nw
  by_cases c1 : n * x < 1 + d
  · rw [if_pos c1]
    exact ref_more n b d _ B x _ w hn r sn (clip_any _) h0 h1 rfl p0 p1 (decide_eq_true c1)
  · rw [if_neg c1]
    by_cases c2 : 3 * (1 + d) ≤ n * x
    · rw [if_pos c2]
      exact ref_less n b d _ B x _ w hn r sn (clip_any _) h0 h1 rfl p0 p1 (decide_eq_false c1) (decide_eq_true c2)
    · rw [if_neg c2]
      refine ref_stay n b d n B x _ w hn r sn (fun v => ?_) h0 h1 rfl p0 p1 (decide_eq_false c1) (decide_eq_false c2)
      have := clip_any n v
      rw [clip_is hn.1 hn.2] at this
      exact this

end Go.Proofs.YtjageagnclmnjaaGreatDoor.V
