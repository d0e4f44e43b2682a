/- PROVED: the law TopText, whole, up to its shutting. what is known of rules, states, pairs and rows of pairs and numbers that came in. how long slices are where all arguments together are of so small a bulk; a slice of integers that came in. CONDITIONS: none beyond each theorem's own. -/
import Derived.Test.YtjageagnclmnjaaGreatDoorX48Ttx
import Derived.Test.YtjageagnclmnjaaGreatDoorX08DRow
import Derived.ProofKit
import Derived.OpenShut
import Derived.ShutString
import Derived.ChangeOld
import Derived.Below
import Derived.SizedLaws
import Derived.ChangeSame
import Derived.Lib.SmallJoins
import Derived.Test.YtjageagnclmnjaaGreatDoorRows
import Derived.Test.YtjageagnclmnjaaGreatDoorX00KNums
namespace Go.Proofs.YtjageagnclmnjaaGreatDoor.D
set_option maxRecDepth 100000
open Go.RowKit K
set_option linter.unusedVariables false

/-- how Play ends -/
theorem play_form (r : Ru) (la : Option Addr) (lc : Nat) (ls : List (Int × Int)) (hl : ls.length ≤ 1048576) :
    ∃ F : Int, (∀ v, VRow v la ls → Calls Tryz.prog 15 #[.agg #[.int .i64 r.k0, .int .i64 r.k1, .int .i64 r.r, .int .i64 r.m, .int .i64 r.j], .slice la ls.length lc] v fun e w' => ∃ ao n cp, ∃ y : Sx, e = .returned (.tuple #[.slice ao n cp, .agg #[.int .i64 y.f0.k, .int .i64 y.f0.n, .int .i64 y.f0.b, .int .i64 y.f0.a, .int .i64 y.f0.s, .int .i64 y.f0.q, .int .i64 y.f1.k, .int .i64 y.f1.n, .int .i64 y.f1.b, .int .i64 y.f1.a, .int .i64 y.f1.s, .int .i64 y.f1.q, .int .i64 y.w0, .int .i64 y.w1], .int .i64 F]) ∧ Below v.heap.size v w') ∧
      (F = 0 → wrong r = 0 ∧ allLate r ls ∧ ∀ v, VRow v la ls → Calls Tryz.prog 15 #[.agg #[.int .i64 r.k0, .int .i64 r.k1, .int .i64 r.r, .int .i64 r.m, .int .i64 r.j], .slice la ls.length lc] v fun e w' => ∃ ao cp, ∃ y : Sx, e = .returned (.tuple #[.slice ao ls.length cp, .agg #[.int .i64 y.f0.k, .int .i64 y.f0.n, .int .i64 y.f0.b, .int .i64 y.f0.a, .int .i64 y.f0.s, .int .i64 y.f0.q, .int .i64 y.f1.k, .int .i64 y.f1.n, .int .i64 y.f1.b, .int .i64 y.f1.a, .int .i64 y.f1.s, .int .i64 y.f1.q, .int .i64 y.w0, .int .i64 y.w1], .int .i64 0]) ∧ RRow w' ao (rounds r (K.start r) ls) ∧ Below v.heap.size v w') := by
  by_cases ok : wrong r = 0
  · have pl := fun v hv => play_any r ok la lc ls.length ls rfl hl v hv
    by_cases ha : allLate r ls
    · have pl1 : ∀ v, VRow v la ls → Calls Tryz.prog 15 #[.agg #[.int .i64 r.k0, .int .i64 r.k1, .int .i64 r.r, .int .i64 r.m, .int .i64 r.j], .slice la ls.length lc] v fun e w' => ∃ ao cp, ∃ y : Sx, e = .returned (.tuple #[.slice ao ls.length cp, .agg #[.int .i64 y.f0.k, .int .i64 y.f0.n, .int .i64 y.f0.b, .int .i64 y.f0.a, .int .i64 y.f0.s, .int .i64 y.f0.q, .int .i64 y.f1.k, .int .i64 y.f1.n, .int .i64 y.f1.b, .int .i64 y.f1.a, .int .i64 y.f1.s, .int .i64 y.f1.q, .int .i64 y.w0, .int .i64 y.w1], .int .i64 0]) ∧ RRow w' ao (rounds r (K.start r) ls) ∧ Below v.heap.size v w' := fun v hv => by
        refine (pl v hv).mono ?_
        rintro e w' ⟨⟨_, ao, cp, rfl, hc, hr, _⟩ | ⟨hn, _⟩, b⟩
        · exact ⟨ao, cp, _, rfl, hr, b⟩
        · exact absurd ha hn
      exact ⟨0, fun v hv => (pl1 v hv).mono fun e w' ⟨ao, cp, y, he, _, b⟩ => ⟨ao, _, cp, y, he, b⟩, fun _ => ⟨ok, ha, pl1⟩⟩
    · refine ⟨2, fun v hv => (pl v hv).mono ?_, fun h => by simp at h⟩
      rintro e w' ⟨⟨hn, _⟩ | ⟨_, rfl⟩, b⟩
      · exact absurd hn ha
      · exact ⟨none, 0, 0, Z0, rfl, b⟩
  · refine ⟨wrong r, fun v _ => (play_wrong r (wrong r) rfl (bne_iff_ne.2 ok) _ v).mono ?_, fun h => absurd h ok⟩
    rintro e w' ⟨rfl, b⟩
    exact ⟨none, 0, 0, Z0, rfl, b⟩
theorem ln_stv0 (m : Int) : (ByteArray.mk (ln 0 2 m).toArray).toList = [48, 32, 115, 116, 97, 114, 118, 101, 115] := by
  rw [Lib.toList_data]; show ln 0 2 m = _; unfold ln; rw [if_pos rfl, show Lib.itoa 0 = [48] by decide +kernel]; rfl
theorem ln_stv1 (m : Int) : (ByteArray.mk (ln 1 2 m).toArray).toList = [49, 32, 115, 116, 97, 114, 118, 101, 115] := by
  rw [Lib.toList_data]; show ln 1 2 m = _; unfold ln; rw [if_pos rfl, show Lib.itoa 1 = [49] by decide +kernel]; rfl
theorem ln_bnd0 (m : Int) : ¬ (ByteArray.mk (ln 0 1 m).toArray).toList = [48, 32, 115, 116, 97, 114, 118, 101, 115] := by
  rw [Lib.toList_data]; show ¬ ln 0 1 m = _; unfold ln; rw [if_neg (by decide), show Lib.itoa 0 = [48] by decide +kernel]; simp
theorem ln_bnd1 (m : Int) : ¬ (ByteArray.mk (ln 1 1 m).toArray).toList = [49, 32, 115, 116, 97, 114, 118, 101, 115] := by
  rw [Lib.toList_data]; show ¬ ln 1 1 m = _; unfold ln; rw [if_neg (by decide), show Lib.itoa 1 = [49] by decide +kernel]; simp
/-- what is bounded stays so, from the first round to the last -/
theorem brings_all {r : Ru} {who ratio : Int} {T : Nat} {d : Nat → Int} (hb : Jb r who ratio T d) {ls : List (Int × Int)} (ha : allLate r ls) (hl : ls.length ≤ 1048576) :
    total (wgt who ratio) (rounds r (K.start r) ls) ≤ mx d (xp r T).1.length ∧ ∀ ao v c, RRow v ao (rounds r (K.start r) ls) → Calls Tryz.prog 16 #[.slice ao ls.length c, .int .i64 who, .int .i64 ratio] v fun e w' => e = .returned (.int .i64 (total (wgt who ratio) (rounds r (K.start r) ls))) ∧ Below v.heap.size v w' := by
  have hk := wrong_ok.1 hb.ok
  have hrl : (rounds r (K.start r) ls).length = ls.length := rounds_len r (K.start r) ls
  have hle := bounded_run hk.2 hb.dn hb.mst (fun v hv => mx_le hv) ha 0 ls.length
  rw [List.drop_zero, List.take_of_length_le (by omega)] at hle
  refine ⟨hle, fun ao v c hR => brings hb.rg ao c ls.length _ hrl (by omega) (fun x hx => ?_) v hR⟩
  obtain ⟨_, _, q1, q2, _⟩ := rounds_in (start_right hk) ha x hx
  exact ⟨q1, q2⟩
theorem topText_go (s : ByteArray) (hs : s.size ≤ 140737488355328) (ratio who : Int) (la : Option Addr) (lc : Nat) (ls : List (Int × Int)) (hl : ls.length ≤ 1048576) (w : World) (L : Lw w) (hv : VRow w la ls) :
    Calls Tryz.prog 5 #[.string s, .int .i64 ratio, .int .i64 who, .slice la ls.length lc] w fun e w' => e = .returned (.bool true) ∧ Below w.heap.size w w' := by
  obtain ⟨D, l0, l1, h⟩ := tl_some s.data.toList ratio
  have te : ∀ v, Lw v → Calls Tryz.prog 7 #[.string s, .int .i64 ratio] v fun e w' => ∃ a n c, e = .returned (.tuple #[.slice a n c, .int .i64 D]) ∧ Below v.heap.size v w' := fun v l => by
    refine (tell_any hs h v l).mono ?_
    rintro e w' ⟨⟨t, rfl, ⟨_, rfl⟩ | ⟨_, g, cap, rfl, _, _⟩⟩, b⟩
    · exact ⟨none, 0, 0, rfl, b⟩
    · exact ⟨_, _, _, rfl, b⟩
  have al := fun v l => alive_top v l
  by_cases hD : D = 0
  · subst hD
    have h' := h
    rcases h with ⟨e, _⟩ | ⟨r, hr, k0, m0, E0, k1, m1, E1, j0, j1, rfl, rfl, hE⟩
    · exact absurd e (by decide)
    have z0 : E0 = 0 := by
      cases q : (E0 != 0)
      · simpa using q
      · rw [q] at hE; simp at hE; exact hE.symm
    subst z0
    have z1 : E1 = 0 := by
      cases q : (E1 != 0)
      · simpa using q
      · rw [q] at hE; simp at hE; exact hE.symm
    subst z1
    have pa := fun v l => parse_rd s hs r hr v l
    have ok : ∀ v, Lw v → Calls Tryz.prog 7 #[.string s, .int .i64 ratio] v fun e w' => ∃ g cap, e = .returned (.tuple #[.slice (some ⟨g, 0, none⟩) 2 cap, .int .i64 0]) ∧ (w'.cell? ⟨g, 0, none⟩ = some (.string ⟨(ln 0 k0 m0).toArray⟩) ∧ w'.cell? ⟨g, 1, none⟩ = some (.string ⟨(ln 1 k1 m1).toArray⟩)) ∧ Below v.heap.size v w' := fun v l => by
      refine (tell_any hs h' v l).mono ?_
      rintro e w' ⟨⟨t, rfl, ⟨q, _⟩ | ⟨_, g, cap, rfl, _, hc⟩⟩, b⟩
      · exact absurd q (by decide)
      · exact ⟨g, cap, rfl, ⟨hc 0 _ rfl, hc 1 _ rfl⟩, b⟩
    obtain ⟨F, pl, hF⟩ := play_form r la lc ls hl
    obtain ⟨k, m, E, hj⟩ := jv_some r who ratio
    by_cases c1 : F = 0
    · subst c1
      obtain ⟨_, ha, pl1⟩ := hF rfl
      by_cases c2 : who < 0
      · exact ttx_bad _ _ _ _ _ _ _ _ _ 0 0 _ 0 s la _ lc ls w L hv (.inr (.inr (.inl ⟨by decide, by decide, decide_eq_true c2⟩))) al pa (fun v => judge_jv hj v) te pl
      by_cases c3 : 1 < who
      · exact ttx_bad _ _ _ _ _ _ _ _ _ 0 0 _ 0 s la _ lc ls w L hv (.inr (.inr (.inr ⟨by decide, by decide, decide_eq_false c2, decide_eq_true c3⟩))) al pa (fun v => judge_jv hj v) te pl
      rcases (show who = 0 ∨ who = 1 by omega) with rfl | rfl
      · rcases id j0 with ⟨he, _⟩ | ⟨T, d, hb, rfl, rfl, _⟩ | ⟨T, hst, rfl, rfl, _⟩
        · have := he.ne; simp at this
        · obtain ⟨q1, q2⟩ := brings_all hb ha hl
          exact ttx_bnd0 _ _ _ _ _ _ _ _ _ 0 0 s _ _ la _ lc ls.length ls _ w L hv (by decide) (ln_bnd0 _) (decide_eq_true q1) al pa (fun v => judge_jv j0 v) ok pl1 q2
        · exact ttx_stv0 _ _ _ _ _ _ _ _ 0 0 s _ _ la _ lc ls.length ls _ w L hv (by decide) (ln_stv0 _) al pa (fun v => judge_jv j0 v) ok pl1
      · rcases id j1 with ⟨he, _⟩ | ⟨T, d, hb, rfl, rfl, _⟩ | ⟨T, hst, rfl, rfl, _⟩
        · have := he.ne; simp at this
        · obtain ⟨q1, q2⟩ := brings_all hb ha hl
          exact ttx_bnd1 _ _ _ _ _ _ _ _ _ 0 0 s _ _ la _ lc ls.length ls _ w L hv (by decide) (ln_bnd1 _) (decide_eq_true q1) al pa (fun v => judge_jv j1 v) ok pl1 q2
        · exact ttx_stv1 _ _ _ _ _ _ _ _ 0 0 s _ _ la _ lc ls.length ls _ w L hv (by decide) (ln_stv1 _) al pa (fun v => judge_jv j1 v) ok pl1
    · exact ttx_bad _ _ _ _ _ _ _ _ _ 0 0 _ F s la _ lc ls w L hv (.inr (.inl ⟨by decide, bne_iff_ne.2 c1⟩)) al pa (fun v => judge_jv hj v) te pl
  · obtain ⟨r, G, pa⟩ : ∃ (r : Ru) (G : Int), ∀ v, Lw v → Calls Tryz.prog 13 #[.string s] v fun e w' => e = .returned (.tuple #[.agg #[.int .i64 r.k0, .int .i64 r.k1, .int .i64 r.r, .int .i64 r.m, .int .i64 r.j], .int .i64 G]) ∧ Below v.heap.size v w' := by
      by_cases hr : ∃ r, Rd s.data.toList r
      · obtain ⟨r, hr⟩ := hr
        exact ⟨r, 0, fun v l => parse_rd s hs r hr v l⟩
      · exact ⟨⟨0, 0, 0, 0, 0⟩, 1, fun v l => parse_not s hs (fun t ht => hr ⟨t, ht⟩) v l⟩
    obtain ⟨F, pl, _⟩ := play_form r la lc ls hl
    obtain ⟨k, m, E, hj⟩ := jv_some r who ratio
    exact ttx_bad _ _ _ _ _ _ _ _ _ D G _ F s la _ lc ls w L hv (.inl (bne_iff_ne.2 hD)) al pa (fun v => judge_jv hj v) te pl
end Go.Proofs.YtjageagnclmnjaaGreatDoor.D

namespace Go.Proofs.YtjageagnclmnjaaGreatDoor.D
open Go.ChangeShapes Go.WideShapes Go.ChangeAt Go.RowKit Go.Joins Go.Deep K
set_option maxRecDepth 100000

theorem fits {n : Int} (h : (Lit.int .i64 n).wf = true) : -9223372036854775808 ≤ n ∧ n ≤ 9223372036854775807 := by
  simpa [Lit.wf, IntKind.min, IntKind.max, IntKind.signed, IntKind.bits] using h
theorem own : ownKnob Tryz.prog.godebug = none := by kernel_rfl
theorem laidOut : laidOutB Tryz.prog = true := by kernel_rfl
theorem Tryz.cells3 : Tryz.prog.cellsOf 3 = 1 := by kernel_rfl
theorem Tryz.cells31 : Tryz.prog.cellsOf 31 = 2 := by kernel_rfl
section
variable {H : Type} {enc : TypeId × Value → H} {W : World} {fuel : Nat} {x : DataW H × List MemPlace}
theorem one_int {c : Value} (h : DataW.trod enc Tryz.prog W 0 (fun _ => true) true fuel 3 [c] = some x) : ∃ n : Int, c = .int .i64 n ∧ -9223372036854775808 ≤ n ∧ n ≤ 9223372036854775807 := by
  obtain ⟨n, e, _, w⟩ := DataW.trod_int Tryz.underlying3 h
  simp at e
  exact ⟨n, e, fits w⟩
theorem list2 {α : Type} {l : List α} (h : l.length = 2) : ∃ c0 c1, l = [c0, c1] := by
  match l, h with
  | [c0, c1], _ => exact ⟨c0, c1, rfl⟩
theorem two_ints {cs : List Value} (h : DataW.trod enc Tryz.prog W 0 (fun _ => true) true fuel 31 cs = some x) : ∃ a b : Int, cs = [.int .i64 a, .int .i64 b] ∧ (-9223372036854775808 ≤ a ∧ a ≤ 9223372036854775807) ∧ -9223372036854775808 ≤ b ∧ b ≤ 9223372036854775807 := by
  obtain ⟨xs, m, _, _, hl, hn, hel⟩ := DataW.trod_array Tryz.underlying31 h
  rw [Tryz.cells31] at hl
  obtain ⟨c0, c1, rfl⟩ := list2 hl
  obtain ⟨y0, y1, rfl⟩ := list2 hn
  obtain ⟨a, rfl, wa⟩ := one_int (enc := enc) (W := W) (fuel := m) (x := y0) (c := c0) (by simpa [Tryz.cells3] using hel 0 (by omega))
  obtain ⟨b, rfl, wb⟩ := one_int (enc := enc) (W := W) (fuel := m) (x := y1) (c := c1) (by simpa [Tryz.cells3] using hel 1 (by omega))
  exact ⟨a, b, rfl, wa, wb⟩
end

/-- so many pairs, one after another -/
theorem choose_pairs (P : Nat → Int × Int → Prop) (n : Nat) (h : ∀ j, j < n → ∃ p, P j p) : ∃ ps : List (Int × Int), ps.length = n ∧ ∀ j, j < n → P j (ps.getD j (0, 0)) := by
  induction n with
  | zero => exact ⟨[], rfl, fun j hj => by omega⟩
  | succ n ih =>
    obtain ⟨ps, hl, hp⟩ := ih fun j hj => h j (by omega)
    obtain ⟨p, hq⟩ := h n (by omega)
    refine ⟨ps ++ [p], by simp [hl], fun j hj => ?_⟩
    by_cases e : j = n
    · subst e
      rw [List.getD_eq_getElem?_getD, List.getElem?_append_right (by omega), hl]
      simpa using hq
    · rw [List.getD_eq_getElem?_getD, List.getElem?_append_left (by omega), ← List.getD_eq_getElem?_getD]
      exact hp j (by omega)
/-- a slice of pairs that came in -/
def FarV (w : World) (ao : Option Addr) (cap : Nat) (ps : List (Int × Int)) : Prop :=
  VRow w ao ps ∧ ps.length ≤ cap ∧ cap ≤ 9223372036854775807
theorem farV {H : Type} {enc : TypeId × Value → H} {W : World} {a : Option Addr} {len cap : Nat} {d : DataW H} {p : List MemPlace}
    (h : DataW.Trod enc Tryz.prog W 0 (fun _ => true) true 30 (.slice a len cap) d p) : ∃ ps, ps.length = len ∧ FarV W a cap ps ∧ (d = .nil ∧ len = 0 ∨ ∃ elems spare, d = .slice elems spare ∧ len ≤ elems.length) := by
  obtain ⟨fuel, hf⟩ := h
  rcases DataW.trod_slice Tryz.underlying30 hf with ⟨hcs, hx⟩ | ⟨x, l, c, elems, rest, n, _, hcs, hx, _, hlc, hm, hlen, hel, _, _⟩
  · simp [Value.cells] at hcs
    obtain ⟨rfl, rfl, rfl⟩ := hcs
    injection hx with hx _
    exact ⟨[], rfl, ⟨.inl rfl, by simp, by omega⟩, .inl ⟨hx, rfl⟩⟩
  · simp [Value.cells] at hcs
    obtain ⟨rfl, rfl, rfl⟩ := hcs
    injection hx with hx _
    unfold maxLen at hm
    rw [Tryz.cells31] at hel
    obtain ⟨ps, hpl, hps⟩ := choose_pairs (fun j q => W.cell? (x.add (j * 2)) = some (.int .i64 q.1) ∧ W.cell? ((x.add (j * 2)).add 1) = some (.int .i64 q.2)) len fun j hj => by
      have := hel j hj
      rw [List.getElem?_eq_getElem (by omega), Option.bind_eq_some_iff] at this
      obtain ⟨cs, hcs, hy⟩ := this
      obtain ⟨s, c, rfl, hs, hc⟩ := two_ints hy
      obtain ⟨_, _, h3⟩ := World.cells?_some hcs
      have h0 := h3 0 (by omega)
      have h1 := h3 1 (by omega)
      rw [show (x.add (j * 2)).add 0 = x.add (j * 2) by simp [Addr.add]] at h0
      exact ⟨(s, c), by simpa using h0, by simpa using h1⟩
    refine ⟨ps, hpl, ⟨?_, by omega, by omega⟩, .inr ⟨_, _, hx, by simp only [List.length_map]; omega⟩⟩
    by_cases h0 : len = 0
    · exact .inl (List.eq_nil_of_length_eq_zero (by omega))
    · have c0 := (hps 0 (by omega)).1
      obtain ⟨b, o, sp⟩ := x
      have hsp : sp = none := by
        cases sp with
        | none => rfl
        | some q =>
          have : W.cell? ((⟨b, o, some q⟩ : Addr).add 0) = none := by
            show W.cell? ⟨b, o, some q⟩ = none
            simp only [World.cell?]
            split <;> simp
          rw [Nat.zero_mul, this] at c0; cases c0
      subst hsp
      refine .inr ⟨b, o, rfl, fun j hj => ?_⟩
      have := hps j (by omega)
      rw [Addr.add_lit, Addr.add_lit] at this
      exact this

end Go.Proofs.YtjageagnclmnjaaGreatDoor.D

namespace Go.Proofs.YtjageagnclmnjaaGreatDoor.D
set_option maxRecDepth 100000
open Go.ChangeShapes Go.WideShapes Go.ChangeAt Go.RowKit Go.Joins Go.Deep K

theorem bulk_len {H : Type} (l : List (DataW H)) : l.length ≤ Rows.uptoBulkAll l := by
  induction l with
  | nil => simp
  | cons x l ih => simp only [Rows.uptoBulkAll, List.length_cons]; have : 1 ≤ Rows.uptoBulk x := (by cases x <;> first | (simp [Rows.uptoBulk]; done) | (rename_i l; cases l <;> simp [Rows.uptoBulk])); omega
theorem bulk_slice {H : Type} (elems spare : List (DataW H)) : elems.length ≤ Rows.uptoBulk (.slice elems spare) := by
  have := bulk_len elems
  simp only [Rows.uptoBulk]
  omega
theorem bulk_in {H : Type} {ds : List (DataW H)} {i : Nat} {d : DataW H} (h : ds[i]? = some d) : Rows.uptoBulk d ≤ Rows.uptoBulkAll ds := by
  induction ds generalizing i with
  | nil => simp at h
  | cons x l ih =>
    cases i with
    | zero => obtain rfl : x = d := (by simpa using h); simp only [Rows.uptoBulkAll]; omega
    | succ i => have := ih (i := i) (by simpa using h); simp only [Rows.uptoBulkAll]; omega
theorem bulk_at {H : Type} {ds : List (DataW H)} {i : Nat} {elems spare : List (DataW H)} (hk : Rows.uptoSmall H ds = true) (h : ds[i]? = some (.slice elems spare)) : elems.length ≤ 1048576 := by
  have h' : Rows.uptoBulkAll ds ≤ 1048576 := of_decide_eq_true hk
  have := bulk_in h
  have := bulk_slice elems spare
  omega
end Go.Proofs.YtjageagnclmnjaaGreatDoor.D
