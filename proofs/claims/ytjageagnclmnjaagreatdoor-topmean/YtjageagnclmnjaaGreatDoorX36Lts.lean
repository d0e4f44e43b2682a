/- PROVED: on plain lists: the cases of what Judge has to tell, and the greatest of potentials. what verdict.latesOf and slices.Max answer. CONDITIONS: none beyond each theorem's own. -/
import Derived.Test.YtjageagnclmnjaaGreatDoorX35QEdg
import Derived.Test.YtjageagnclmnjaaGreatDoorX31Lea
import Derived.RangeFuncBox
namespace Go.Proofs.YtjageagnclmnjaaGreatDoor.D
open Go.RowKit K
set_option linter.unusedVariables false

/-- the greatest of the first n, and of 0 -/
def mx (d : Nat → Int) : Nat → Int
  | 0 => 0
  | k + 1 => max (mx d k) (d k)
theorem mx_le {d : Nat → Int} {n v : Nat} (h : v < n) : d v ≤ mx d n := by
  induction n with
  | zero => omega
  | succ n ih =>
    show d v ≤ max (mx d n) (d n)
    by_cases e : v = n
    · subst e; omega
    · have := ih (by omega); omega
theorem mx_one {d : Nat → Int} (h : 0 ≤ d 0) : mx d 1 = d 0 := by show max (0 : Int) (d 0) = d 0; omega

/-- who and ratio lie where they may -/
def Rg (who ratio : Int) : Prop := (0 ≤ who ∧ who ≤ 1) ∧ 1 ≤ ratio ∧ ratio ≤ 100
/-- an error is told -/
def Je (r : Ru) (who ratio E : Int) : Prop := ¬ Rg who ratio ∧ E = 2 ∨ Rg who ratio ∧ (wrong r = E ∧ (E != 0) = true ∨ wrong r = 0 ∧ Fl r ∧ E = 4)
theorem Je.ne {r : Ru} {who ratio E : Int} (h : Je r who ratio E) : (E != 0) = true := by
  rcases h with ⟨_, rfl⟩ | ⟨_, ⟨_, h⟩ | ⟨_, _, rfl⟩⟩
  · decide
  · exact h
  · decide
/-- bounded -/
structure Jb (r : Ru) (who ratio : Int) (T : Nat) (d : Nat → Int) : Prop where
  rg : Rg who ratio
  ok : wrong r = 0
  dn : Dn r T
  mst : Q.Mst (esG r T who ratio) d
/-- starves -/
structure Js (r : Ru) (who ratio : Int) (T : Nat) : Prop where
  rg : Rg who ratio
  ok : wrong r = 0
  dn : Dn r T
  pos : ¬ Q.noPos (esG r T who ratio)
theorem round_c {r : Ru} {s : Sx} (h : pright r s) : (0 ≤ (K.round r s).c0 ∧ (K.round r s).c0 ≤ 12) ∧ (0 ≤ (K.round r s).c1 ∧ (K.round r s).c1 ≤ 12) := by
  have hj := h.1.2.2.2
  have hr := h.1.2.1
  have hl : allLate r [(0, 0)] := fun p hp => by
    obtain rfl : p = (0, 0) := by simpa using hp
    exact ⟨⟨Int.le_refl _, hj.1⟩, Int.le_refl _, hj.1⟩
  obtain ⟨_, _, ⟨a, _⟩, ⟨b, _⟩, _⟩ := rounds_in h hl (K.round r s) (by simp [rounds])
  have := rounds_come h hl (K.round r s) (by simp [rounds])
  omega
theorem mul_in {a c : Int} (ha : 1 ≤ a ∧ a ≤ 100) (hc : 0 ≤ c ∧ c ≤ 12) : 0 ≤ a * c ∧ a * c ≤ 1200 :=
  ⟨Int.mul_nonneg (by omega) hc.1, Int.le_trans (Int.mul_le_mul_of_nonneg_right ha.2 hc.1) (by omega)⟩
theorem wgt_in {r : Ru} {s : Sx} {who ratio : Int} (h : pright r s) (hr : 1 ≤ ratio ∧ ratio ≤ 100) : -1200 ≤ wgt who ratio (K.round r s) ∧ wgt who ratio (K.round r s) ≤ 12 := by
  obtain ⟨c0, c1⟩ := round_c h
  have m0 := mul_in hr c0
  have m1 := mul_in hr c1
  unfold wgt
  split <;> omega
theorem gph {r : Ru} {T : Nat} {who ratio : Int} (ok : wrong r = 0) (hT : Dn r T) (hr : 1 ≤ ratio ∧ ratio ≤ 100) : Q.Gph (xp r T).1.length (esG r T who ratio) := by
  have hk := wrong_ok.1 ok
  refine ⟨hT.2.2, ?_, esG_inn hT who ratio, fun e he => ?_⟩
  · rw [esG_len, hT.2.1]
    exact Nat.le_trans (Nat.mul_le_mul (jj_cast hk.2).2.2 hT.2.2) (by decide)
  · obtain ⟨u, hu, rfl⟩ := esG_mem.1 he
    obtain ⟨a, b, c, d⟩ := ed_is hT who ratio hu
    rw [d]
    have := wgt_in (who := who) (xp_right hk T (stt r T (u / ee r)) (List.mem_of_getElem? (stt_get a))) hr
    omega
theorem mst_some {n : Nat} {es : List Q.Eg} (hn : Q.Inn n es) (h : Q.noPos es) : ∃ d, Q.Mst es d := by
  obtain ⟨k, _, hk⟩ := (Q.still_iff hn).2 h
  exact ⟨Q.mo es k, Q.still_pots hk, fun v => Q.mo_nonneg es k v, fun v => by obtain ⟨u, l, g1, _, g3⟩ := Q.mo_got es k v; exact ⟨u, l, g1, g3⟩⟩
/-- one of the three -/
theorem judge_or (r : Ru) (who ratio : Int) : (∃ E, Je r who ratio E) ∨ (∃ T d, Jb r who ratio T d) ∨ ∃ T, Js r who ratio T := by
  by_cases hg : Rg who ratio
  · by_cases ok : wrong r = 0
    · rcases dn_or r with ⟨T, hT⟩ | hF
      · by_cases hp : Q.noPos (esG r T who ratio)
        · obtain ⟨d, hd⟩ := mst_some (esG_inn hT who ratio) hp
          exact .inr (.inl ⟨T, d, hg, ok, hT, hd⟩)
        · exact .inr (.inr ⟨T, hg, ok, hT, hp⟩)
      · exact .inl ⟨4, .inr ⟨hg, .inr ⟨ok, hF, rfl⟩⟩⟩
    · exact .inl ⟨wrong r, .inr ⟨hg, .inl ⟨rfl, bne_iff_ne.2 ok⟩⟩⟩
  · exact .inl ⟨2, .inl ⟨hg, rfl⟩⟩
/-- a lead and a round that starve the other -/
structure Sv (r : Ru) (who ratio : Int) (A C : List (Int × Int)) : Prop where
  a : allLate r A
  c : allLate r C
  pos : 0 < C.length
  la : A.length ≤ 300
  lc : C.length ≤ 300
  back : steps r (steps r (K.start r) A) C = steps r (K.start r) A
  more : 0 < total (wgt who ratio) (rounds r (steps r (K.start r) A) C)
/-- what is late at edges of a way round -/
def lat (r : Ru) (R : Nat → Nat) (p : Nat) : List (Int × Int) := (List.range p).map fun j => pr r (R j % ee r)
theorem lat_len (r : Ru) (R : Nat → Nat) (p : Nat) : (lat r R p).length = p := by simp [lat]
theorem lat_succ (r : Ru) (R : Nat → Nat) (p : Nat) : lat r R (p + 1) = lat r R p ++ [pr r (R p % ee r)] := by simp [lat, List.range_succ]
theorem pr_mod (r : Ru) (n : Nat) : pr r (n % ee r) = (((n / jj r % jj r : Nat) : Int), ((n % jj r : Nat) : Int)) := by
  unfold pr ee
  rw [Nat.mod_mul_right_div_self, Nat.mod_mul_right_mod]
theorem sv_of {r : Ru} {who ratio : Int} {T : Nat} (h : Js r who ratio T) {R : Nat → Nat} {p : Nat} (p1 : 1 ≤ p) (pn : p ≤ (xp r T).1.length) (wok : Q.Wok (esG r T who ratio) R p) (ends : (Q.eg (esG r T who ratio) (R 0)).f = (Q.eg (esG r T who ratio) (R (p - 1))).t) (pos : 0 < Q.nsum (esG r T who ratio) R p)
    {l : List Nat} (hL : Ld (sp r) (ee r) (K.start r) (R 0 / ee r) l) : Sv r who ratio (l.map (pr r)) (lat r R p) ∧ R 0 / ee r < (xp r T).1.length := by
  have hk := wrong_ok.1 h.ok
  have h0 := (wok 0 p1).1
  rw [esG_len] at h0
  have hi : R 0 / ee r < (xp r T).1.length := (ed_is h.dn who ratio h0).1
  obtain ⟨l1, l2⟩ := ld_small hL
  have hrun := ld_run h.dn.1 (R 0 / ee r) l hL hi
  have e0 : steps r (K.start r) (l.map (pr r)) = stt r T (R 0 / ee r) := by rw [steps_pr, stt_at hrun]
  obtain ⟨g1, g2⟩ := wok_run h.dn who ratio hk.2 wok p (Nat.le_refl _) p1
  have e1 : (Q.eg (esG r T who ratio) (R (p - 1))).t = R 0 / ee r := by rw [← ends, esG_eg h0]; rfl
  rw [if_neg (by omega), e1] at g1
  have n3 := h.dn.2.2
  refine ⟨⟨fun q hq => ?_, fun q hq => ?_, by rw [lat_len]; omega, by rw [List.length_map]; omega, by rw [lat_len]; omega, ?_, ?_⟩, hi⟩
  · obtain ⟨n, hn, rfl⟩ := List.mem_map.1 hq
    exact sp_lates hk.2 (l2 n hn)
  · obtain ⟨j, _, rfl⟩ := List.mem_map.1 hq
    exact sp_lates hk.2 (Nat.mod_lt _ (ee_pos r))
  · rw [e0]; exact g1
  · rw [e0]; exact g2 ▸ pos

end Go.Proofs.YtjageagnclmnjaaGreatDoor.D

namespace Go.Proofs.YtjageagnclmnjaaGreatDoor.D
set_option maxRecDepth 100000
open Go.RowKit K
set_option linter.unusedVariables false
attribute [local go_sem ↓] appS_whole

theorem max_any (g c n : Nat) (d : Nat → Int) (h0 : 0 < n) (hn : n ≤ 300) (hd : ∀ v, 0 ≤ d v) (w : World) (hC : Q.Cells w g n d) :
    Calls Tryz.prog 32 #[.slice (some ⟨g, 0, none⟩) n c] w fun e w' => e = .returned (.int .i64 (mx d n)) ∧ w' = w := by
  have h1 : decide ((n : Int) < 1) = false := decide_eq_false (by omega)
  have c0 := hC.c 0 h0
  have m1 : Hid (mx d 1 = d 0) := mx_one (hd 0)
  have h0I : (0 : Int) < (n : Int) := by omega
  go_enter Tryz.func32, Tryz.ntmps32
  go_wp2
  clear h1 c0
  go_loopw [3, 4] (fun m i wr => ∃ k : Nat, 1 ≤ k ∧ k ≤ n ∧ i = .int .i64 k ∧ m = .int .i64 (mx d k) ∧ wr = w) (fun _ i _ => n - (intOf i).toNat)
  case atStart => exact ⟨1, Nat.le_refl _, h0, rfl, by rw [m1.out], rfl⟩
  case round =>
    obtain ⟨k, hk1, hk, rfl, rfl, rfl⟩ := hrel
    by_cases hlt : k < n
    · have hI : (k : Int) < (n : Int) := by omega
      have ck := hC.c k hlt
      have hm : Hid (mx d (k + 1) = max (mx d k) (d k)) := rfl
      generalize d k = x at *
      generalize mx d k = y at *
      go_wp2
      go_roundw
      case rel => exact ⟨k + 1, by omega, by omega, by go_num, by rw [hm.out]; exact ⟨rfl, trivial⟩⟩
      case measure => simp [intOf]; omega
    · obtain rfl : k = n := by omega
      have hI : decide ((k : Int) < (k : Int)) = false := decide_eq_false (by omega)
      go_wp2
      go_ret
      exact ⟨rfl, rfl⟩

theorem VGath.app_drew {w : World} {t : Value} {wr : World} {ps : List (Int × Int)} (h : VGath w t wr ps) {k : Nat} (hk : ps.length = k) (hp : k ≤ 300) (x y : Int) : ∃ g cap w2, (appS #[30, 30] 30 #[t, .slice (some ⟨wr.heap.size, 0, none⟩) 1 1]).run Tryz.prog (wr.alloc (.cells #[.int .i64 x, .int .i64 y] 31)).drew = .ok (.slice (some ⟨g, 0, none⟩) (k + 1) cap) w2 ∧ VGath w (.slice (some ⟨g, 0, none⟩) (k + 1) cap) w2 (ps ++ [(x, y)]) := by
  have hd : VGath w t wr.drew ps := ⟨own_keptV h.own (Below.drew (Below.refl _ _)), Below.drew h.below⟩
  obtain ⟨g, cap, w2, h1, h2, _⟩ := hd.app (by omega) x y
  rw [hk] at h1 h2
  exact ⟨g, cap, w2, h1, h2⟩

set_option maxHeartbeats 1600000 in
theorem lates_of (r : Ru) (hr : ranges r) (g c p : Nat) (R : Nat → Nat) (hp : p ≤ 300) (hR : ∀ j, j < p → R j ≤ 4800) (w : World) (hC : Q.Cells w g p fun j => (R j : Int)) :
    Calls Tryz.prog 35 #[.slice (some ⟨g, 0, none⟩) p c, .int .i64 r.j] w fun e w' => ∃ ao cp, e = .returned (.slice ao p cp) ∧ p ≤ cp ∧ VRow w' ao (lat r R p) ∧ Fr w.heap.size ao ∧ Below w.heap.size w w' := by
  obtain ⟨hj, hj4, _⟩ := jj_cast hr
  have hj1 := jj_pos r
  have hw : IntKind.i64.wrap (r.j + 1) = (jj r : Int) := by rw [hj]; exact Q.wrap_in (by omega)
  have hst : VGath w (.slice none 0 0) w (lat r R 0) := VGath.start w
  have hJ : Hid (∀ n : Nat, pr r (n % ee r) = (((n / jj r % jj r : Nat) : Int), ((n % jj r : Nat) : Int))) := fun n => pr_mod r n
  have hjz : ((jj r : Nat) : Int) ≠ 0 := by omega
  generalize hJJ : jj r = J at *
  replace hj := hj.symm
  go_enter Tryz.func35, Tryz.ntmps35
  go_wp2
  go_loopw [6, 13] (fun t i wr => ∃ k : Nat, k ≤ p ∧ i = .int .i64 k ∧ VGath w t wr (lat r R k)) (fun _ i _ => p - (intOf i).toNat)
  case atStart => exact ⟨0, Nat.zero_le _, rfl, hst⟩
  case round =>
    obtain ⟨k, hk, rfl, hG⟩ := hrel
    by_cases hlt : k < p
    · have hI : (k : Int) < (p : Int) := by omega
      have ck := (hC.kept hG.below).c k hlt
      have hR4 := hR k hlt
      obtain ⟨x, hx⟩ : ∃ x, R k = x := ⟨_, rfl⟩
      rw [hx] at ck hR4
      have hs : Hid (lat r R k ++ [(((x / J % J : Nat) : Int), ((x % J : Nat) : Int))] = lat r R (k + 1)) := by
        show _ = _
        rw [lat_succ, hJ.out, hx]
      have hxj : x / J ≤ x := Nat.div_le_self _ _
      have q0 : wrap64 ((x : Int) / (J : Int)) = ((x / J : Nat) : Int) := IntWalk.wrap64_in ((x / J : Nat) : Int) (by
        generalize x / J = y at *
        omega)
      have q1 : Int.tmod ((x / J : Nat) : Int) (J : Int) = ((x / J % J : Nat) : Int) := rfl
      have q2 : ((x / J : Nat) : Int) % (J : Int) = ((x / J % J : Nat) : Int) := rfl
      have q3 : (x : Int) % (J : Int) = ((x % J : Nat) : Int) := rfl
      generalize x % J = u at *
      generalize x / J % J = z at *
      generalize x / J = y at *
      obtain ⟨g2, cap, w2, hrun, hG2⟩ := hG.app_drew (lat_len r R k) (by omega) (z : Int) (u : Int)
      rw [hs.out] at hG2
      go_wp2
      go_region
      go_wp2
      go_roundw
      case rel => exact ⟨k + 1, by omega, by go_num, hG2⟩
      case measure => simp [intOf]; omega
    · obtain rfl : k = p := by omega
      have hI : decide ((k : Int) < (k : Int)) = false := decide_eq_false (by omega)
      obtain ⟨ao, cp, rfl, hc, hv⟩ := hG.done (lat_len r R k)
      have hb := hG.below
      have hfr : Hid (Fr w.heap.size ao) := hG.fresh
      go_wp2
      go_ret
      exact ⟨ao, cp, rfl, hc, hv, hfr.out, hb⟩

end Go.Proofs.YtjageagnclmnjaaGreatDoor.D
