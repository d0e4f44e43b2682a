/- PROVED: on plain lists: the cases of what Judge has to tell, and the greatest of potentials. what verdict.latesOf and slices.Max answer. a climber in memory; what (*climber).pass does to it. what slices.Repeat answers of one number. CONDITIONS: none beyond each theorem's own. -/
import Derived.Test.YtjageagnclmnjaaGreatDoorB32QEdg
import Derived.Test.YtjageagnclmnjaaGreatDoorB29Lea
import Derived.RangeFuncBox
import Derived.Test.YtjageagnclmnjaaGreatDoorB04Shelf
import Derived.Laws.CopyOwn
namespace Go.Proofs.YtjageagnclmnjaaGreatDoor.D
open Go.RowKit K
set_option linter.unusedVariables false

/-- the greatest of the first n, and of 0 -/
def mx (d : Nat → Int) : Nat → Int
  | 0 => 0
  | k + 1 => max (mx d k) (d k)
theorem mx_one {d : Nat → Int} (h : 0 ≤ d 0) : mx d 1 = d 0 := by show max (0 : Int) (d 0) = d 0; omega

/-- who and ratio lie where they may -/
def Rg (who ratio : Int) : Prop := (0 ≤ who ∧ who ≤ 1) ∧ 1 ≤ ratio ∧ ratio ≤ 100
/-- an error is told -/
def Je (r : Ru) (who ratio E : Int) : Prop := ¬ Rg who ratio ∧ E = 2 ∨ Rg who ratio ∧ (wrong r = E ∧ (E != 0) = true ∨ wrong r = 0 ∧ Fl r ∧ E = 4)
theorem Je.ne {r : Ru} {who ratio E : Int} (h : Je r who ratio E) : (E != 0) = true := by
  rcases h with ⟨_, rfl⟩ | ⟨_, ⟨_, h⟩ | ⟨_, _, rfl⟩⟩
  · decide
  · exact h
  · decide
/-- bounded -/
structure Jb (r : Ru) (who ratio : Int) (T : Nat) (d : Nat → Int) : Prop where
  rg : Rg who ratio
  ok : wrong r = 0
  dn : Dn r T
  mst : Q.Mst (esG r T who ratio) d
/-- starves -/
structure Js (r : Ru) (who ratio : Int) (T : Nat) : Prop where
  rg : Rg who ratio
  ok : wrong r = 0
  dn : Dn r T
  pos : ¬ Q.noPos (esG r T who ratio)
theorem round_c {r : Ru} {s : Sx} (h : pright r s) : (0 ≤ (K.round r s).c0 ∧ (K.round r s).c0 ≤ 12) ∧ (0 ≤ (K.round r s).c1 ∧ (K.round r s).c1 ≤ 12) := by
  have hj := h.1.2.2.2
  have hr := h.1.2.1
  have hl : allLate r [(0, 0)] := fun p hp => by
    obtain rfl : p = (0, 0) := by simpa using hp
    exact ⟨⟨Int.le_refl _, hj.1⟩, Int.le_refl _, hj.1⟩
  obtain ⟨_, _, ⟨a, _⟩, ⟨b, _⟩, _⟩ := rounds_in h hl (K.round r s) (by simp [rounds])
  have := rounds_come h hl (K.round r s) (by simp [rounds])
  omega
theorem mul_in {a c : Int} (ha : 1 ≤ a ∧ a ≤ 100) (hc : 0 ≤ c ∧ c ≤ 12) : 0 ≤ a * c ∧ a * c ≤ 1200 :=
  ⟨Int.mul_nonneg (by omega) hc.1, Int.le_trans (Int.mul_le_mul_of_nonneg_right ha.2 hc.1) (by omega)⟩
theorem wgt_in {r : Ru} {s : Sx} {who ratio : Int} (h : pright r s) (hr : 1 ≤ ratio ∧ ratio ≤ 100) : -1200 ≤ wgt who ratio (K.round r s) ∧ wgt who ratio (K.round r s) ≤ 12 := by
  obtain ⟨c0, c1⟩ := round_c h
  have m0 := mul_in hr c0
  have m1 := mul_in hr c1
  unfold wgt
  split <;> omega
theorem gph {r : Ru} {T : Nat} {who ratio : Int} (ok : wrong r = 0) (hT : Dn r T) (hr : 1 ≤ ratio ∧ ratio ≤ 100) : Q.Gph (xp r T).1.length (esG r T who ratio) := by
  have hk := wrong_ok.1 ok
  refine ⟨hT.2.2, ?_, esG_inn hT who ratio, fun e he => ?_⟩
  · rw [esG_len, hT.2.1]
    exact Nat.le_trans (Nat.mul_le_mul (jj_cast hk.2).2.2 hT.2.2) (by decide)
  · obtain ⟨u, hu, rfl⟩ := esG_mem.1 he
    obtain ⟨a, b, c, d⟩ := ed_is hT who ratio hu
    rw [d]
    have := wgt_in (who := who) (xp_right hk T (stt r T (u / ee r)) (List.mem_of_getElem? (stt_get a))) hr
    omega
theorem mst_some {n : Nat} {es : List Q.Eg} (hn : Q.Inn n es) (h : Q.noPos es) : ∃ d, Q.Mst es d := by
  obtain ⟨k, _, hk⟩ := (Q.still_iff hn).2 h
  exact ⟨Q.mo es k, Q.still_pots hk, fun v => Q.mo_nonneg es k v, fun v => by obtain ⟨u, l, g1, _, g3⟩ := Q.mo_got es k v; exact ⟨u, l, g1, g3⟩⟩
/-- one of the three -/
theorem judge_or (r : Ru) (who ratio : Int) : (∃ E, Je r who ratio E) ∨ (∃ T d, Jb r who ratio T d) ∨ ∃ T, Js r who ratio T := by
  by_cases hg : Rg who ratio
  · by_cases ok : wrong r = 0
    · rcases dn_or r with ⟨T, hT⟩ | hF
      · by_cases hp : Q.noPos (esG r T who ratio)
        · obtain ⟨d, hd⟩ := mst_some (esG_inn hT who ratio) hp
          exact .inr (.inl ⟨T, d, hg, ok, hT, hd⟩)
        · exact .inr (.inr ⟨T, hg, ok, hT, hp⟩)
      · exact .inl ⟨4, .inr ⟨hg, .inr ⟨ok, hF, rfl⟩⟩⟩
    · exact .inl ⟨wrong r, .inr ⟨hg, .inl ⟨rfl, bne_iff_ne.2 ok⟩⟩⟩
  · exact .inl ⟨2, .inl ⟨hg, rfl⟩⟩
theorem Jb.not {r : Ru} {who ratio : Int} {T : Nat} {d : Nat → Int} (h : Jb r who ratio T d) : ¬ Starve r who ratio := fun q =>
  (starve_iff (wrong_ok.1 h.ok).2 h.dn who ratio).1 q h.mst.noPos
theorem Js.yes {r : Ru} {who ratio : Int} {T : Nat} (h : Js r who ratio T) : Starve r who ratio := (starve_iff (wrong_ok.1 h.ok).2 h.dn who ratio).2 h.pos

/-- a lead and a round that starve the other -/
structure Sv (r : Ru) (who ratio : Int) (A C : List (Int × Int)) : Prop where
  a : allLate r A
  c : allLate r C
  pos : 0 < C.length
  la : A.length ≤ 300
  lc : C.length ≤ 300
  back : steps r (steps r (K.start r) A) C = steps r (K.start r) A
  more : 0 < total (wgt who ratio) (rounds r (steps r (K.start r) A) C)
/-- what is late at edges of a way round -/
def lat (r : Ru) (R : Nat → Nat) (p : Nat) : List (Int × Int) := (List.range p).map fun j => pr r (R j % ee r)
theorem lat_len (r : Ru) (R : Nat → Nat) (p : Nat) : (lat r R p).length = p := by simp [lat]
theorem lat_succ (r : Ru) (R : Nat → Nat) (p : Nat) : lat r R (p + 1) = lat r R p ++ [pr r (R p % ee r)] := by simp [lat, List.range_succ]
theorem pr_mod (r : Ru) (n : Nat) : pr r (n % ee r) = (((n / jj r % jj r : Nat) : Int), ((n % jj r : Nat) : Int)) := by
  unfold pr ee
  rw [Nat.mod_mul_right_div_self, Nat.mod_mul_right_mod]
theorem sv_of {r : Ru} {who ratio : Int} {T : Nat} (h : Js r who ratio T) {R : Nat → Nat} {p : Nat} (p1 : 1 ≤ p) (pn : p ≤ (xp r T).1.length) (wok : Q.Wok (esG r T who ratio) R p) (ends : (Q.eg (esG r T who ratio) (R 0)).f = (Q.eg (esG r T who ratio) (R (p - 1))).t) (pos : 0 < Q.nsum (esG r T who ratio) R p)
    {l : List Nat} (hL : Ld (sp r) (ee r) (K.start r) (R 0 / ee r) l) : Sv r who ratio (l.map (pr r)) (lat r R p) ∧ R 0 / ee r < (xp r T).1.length := by
  have hk := wrong_ok.1 h.ok
  have h0 := (wok 0 p1).1
  rw [esG_len] at h0
  have hi : R 0 / ee r < (xp r T).1.length := (ed_is h.dn who ratio h0).1
  obtain ⟨l1, l2⟩ := ld_small hL
  have hrun := ld_run h.dn.1 (R 0 / ee r) l hL hi
  have e0 : steps r (K.start r) (l.map (pr r)) = stt r T (R 0 / ee r) := by rw [steps_pr, stt_at hrun]
  obtain ⟨g1, g2⟩ := wok_run h.dn who ratio hk.2 wok p (Nat.le_refl _) p1
  have e1 : (Q.eg (esG r T who ratio) (R (p - 1))).t = R 0 / ee r := by rw [← ends, esG_eg h0]; rfl
  rw [if_neg (by omega), e1] at g1
  have n3 := h.dn.2.2
  refine ⟨⟨fun q hq => ?_, fun q hq => ?_, by rw [lat_len]; omega, by rw [List.length_map]; omega, by rw [lat_len]; omega, ?_, ?_⟩, hi⟩
  · obtain ⟨n, hn, rfl⟩ := List.mem_map.1 hq
    exact sp_lates hk.2 (l2 n hn)
  · obtain ⟨j, _, rfl⟩ := List.mem_map.1 hq
    exact sp_lates hk.2 (Nat.mod_lt _ (ee_pos r))
  · rw [e0]; exact g1
  · rw [e0]; exact g2 ▸ pos

end Go.Proofs.YtjageagnclmnjaaGreatDoor.D

namespace Go.Proofs.YtjageagnclmnjaaGreatDoor.D
set_option maxRecDepth 100000
open Go.RowKit K
set_option linter.unusedVariables false
attribute [local go_sem ↓] appS_whole

theorem max_any (g c n : Nat) (d : Nat → Int) (h0 : 0 < n) (hn : n ≤ 300) (hd : ∀ v, 0 ≤ d v) (w : World) (hC : Q.Cells w g n d) :
    Calls Tryz.prog 32 #[.slice (some ⟨g, 0, none⟩) n c] w fun e w' => e = .returned (.int .i64 (mx d n)) ∧ w' = w := by
  have h1 : decide ((n : Int) < 1) = false := decide_eq_false (by omega)
  have c0 := hC.c 0 h0
  have m1 : Hid (mx d 1 = d 0) := mx_one (hd 0)
  have h0I : (0 : Int) < (n : Int) := by omega
  go_enter Tryz.func32, Tryz.ntmps32
  go_wp2
  clear h1 c0
  go_loopw [3, 4] (fun m i wr => ∃ k : Nat, 1 ≤ k ∧ k ≤ n ∧ i = .int .i64 k ∧ m = .int .i64 (mx d k) ∧ wr = w) (fun _ i _ => n - (intOf i).toNat)
  case atStart => exact ⟨1, Nat.le_refl _, h0, rfl, by rw [m1.out], rfl⟩
  case round =>
    obtain ⟨k, hk1, hk, rfl, rfl, rfl⟩ := hrel
    by_cases hlt : k < n
    · have hI : (k : Int) < (n : Int) := by omega
      have ck := hC.c k hlt
      have hm : Hid (mx d (k + 1) = max (mx d k) (d k)) := rfl
      generalize d k = x at *
      generalize mx d k = y at *
      go_wp2
      go_roundw
      case rel => exact ⟨k + 1, by omega, by omega, by go_num, by rw [hm.out]; exact ⟨rfl, trivial⟩⟩
      case measure => simp [intOf]; omega
    · obtain rfl : k = n := by omega
      have hI : decide ((k : Int) < (k : Int)) = false := decide_eq_false (by omega)
      go_wp2
      go_ret
      exact ⟨rfl, rfl⟩

theorem VGath.app_drew {w : World} {t : Value} {wr : World} {ps : List (Int × Int)} (h : VGath w t wr ps) {k : Nat} (hk : ps.length = k) (hp : k ≤ 300) (x y : Int) : ∃ g cap w2, (appS #[30, 30] 30 #[t, .slice (some ⟨wr.heap.size, 0, none⟩) 1 1]).run Tryz.prog (wr.alloc (.cells #[.int .i64 x, .int .i64 y] 31)).drew = .ok (.slice (some ⟨g, 0, none⟩) (k + 1) cap) w2 ∧ VGath w (.slice (some ⟨g, 0, none⟩) (k + 1) cap) w2 (ps ++ [(x, y)]) := by
  have hd : VGath w t wr.drew ps := ⟨own_keptV h.own (Below.drew (Below.refl _ _)), Below.drew h.below⟩
  obtain ⟨g, cap, w2, h1, h2, _⟩ := hd.app (by omega) x y
  rw [hk] at h1 h2
  exact ⟨g, cap, w2, h1, h2⟩

set_option maxHeartbeats 1600000 in
theorem lates_of (r : Ru) (hr : ranges r) (g c p : Nat) (R : Nat → Nat) (hp : p ≤ 300) (hR : ∀ j, j < p → R j ≤ 4800) (w : World) (hC : Q.Cells w g p fun j => (R j : Int)) :
    Calls Tryz.prog 35 #[.slice (some ⟨g, 0, none⟩) p c, .int .i64 r.j] w fun e w' => ∃ ao cp, e = .returned (.slice ao p cp) ∧ p ≤ cp ∧ VRow w' ao (lat r R p) ∧ Fr w.heap.size ao ∧ Below w.heap.size w w' := by
  obtain ⟨hj, hj4, _⟩ := jj_cast hr
  have hj1 := jj_pos r
  have hw : IntKind.i64.wrap (r.j + 1) = (jj r : Int) := by rw [hj]; exact Q.wrap_in (by omega)
  have hst : VGath w (.slice none 0 0) w (lat r R 0) := VGath.start w
  have hJ : Hid (∀ n : Nat, pr r (n % ee r) = (((n / jj r % jj r : Nat) : Int), ((n % jj r : Nat) : Int))) := fun n => pr_mod r n
  have hjz : ((jj r : Nat) : Int) ≠ 0 := by omega
  generalize hJJ : jj r = J at *
  replace hj := hj.symm
  go_enter Tryz.func35, Tryz.ntmps35
  go_wp2
  go_loopw [6, 13] (fun t i wr => ∃ k : Nat, k ≤ p ∧ i = .int .i64 k ∧ VGath w t wr (lat r R k)) (fun _ i _ => p - (intOf i).toNat)
  case atStart => exact ⟨0, Nat.zero_le _, rfl, hst⟩
  case round =>
    obtain ⟨k, hk, rfl, hG⟩ := hrel
    by_cases hlt : k < p
    · have hI : (k : Int) < (p : Int) := by omega
      have ck := (hC.kept hG.below).c k hlt
      have hR4 := hR k hlt
      obtain ⟨x, hx⟩ : ∃ x, R k = x := ⟨_, rfl⟩
      rw [hx] at ck hR4
      have hs : Hid (lat r R k ++ [(((x / J % J : Nat) : Int), ((x % J : Nat) : Int))] = lat r R (k + 1)) := by
        show _ = _
        rw [lat_succ, hJ.out, hx]
      have hxj : x / J ≤ x := Nat.div_le_self _ _
      have q0 : wrap64 ((x : Int) / (J : Int)) = ((x / J : Nat) : Int) := IntWalk.wrap64_in ((x / J : Nat) : Int) (by
        generalize x / J = y at *
        omega)
      have q1 : Int.tmod ((x / J : Nat) : Int) (J : Int) = ((x / J % J : Nat) : Int) := rfl
      have q2 : ((x / J : Nat) : Int) % (J : Int) = ((x / J % J : Nat) : Int) := rfl
      have q3 : (x : Int) % (J : Int) = ((x % J : Nat) : Int) := rfl
      generalize x % J = u at *
      generalize x / J % J = z at *
      generalize x / J = y at *
      obtain ⟨g2, cap, w2, hrun, hG2⟩ := hG.app_drew (lat_len r R k) (by omega) (z : Int) (u : Int)
      rw [hs.out] at hG2
      go_wp2
      go_region
      go_wp2
      go_roundw
      case rel => exact ⟨k + 1, by omega, by go_num, hG2⟩
      case measure => simp [intOf]; omega
    · obtain rfl : k = p := by omega
      have hI : decide ((k : Int) < (k : Int)) = false := decide_eq_false (by omega)
      obtain ⟨ao, cp, rfl, hc, hv⟩ := hG.done (lat_len r R k)
      have hb := hG.below
      have hfr : Hid (Fr w.heap.size ao) := hG.fresh
      go_wp2
      go_ret
      exact ⟨ao, cp, rfl, hc, hv, hfr.out, hb⟩

end Go.Proofs.YtjageagnclmnjaaGreatDoor.D

namespace Go.Proofs.YtjageagnclmnjaaGreatDoor.Q
open Go.RowKit

/-- a climber: its struct in block P, what it knows in blocks M and A -/
structure Cb (w : World) (P M A n : Nat) (s : St) : Prop where
  c0 : w.cell? ⟨P, 0, none⟩ = some (.slice (some ⟨M, 0, none⟩) n n)
  c1 : w.cell? ⟨P, 1, none⟩ = some (.slice (some ⟨A, 0, none⟩) n n)
  c2 : w.cell? ⟨P, 2, none⟩ = some (.int .i64 s.r)
  f2 : w.frozen? ⟨P, 2, none⟩ = false
  cd : Cells w M n s.d
  cl : Cells w A n s.l
  pm : P ≠ M
  pa : P ≠ A
  ma : M ≠ A
theorem frozen_kept {w w' : World} {O o : Nat} (h : w.frozen? ⟨O, o, none⟩ = false) (hO : O < w.heap.size) (b : Below w.heap.size w w') : w'.frozen? ⟨O, o, none⟩ = false := by
  have := b.block O hO
  simp only [World.frozen?] at h ⊢
  rw [this]; exact h
theorem Cb.kept {w w' : World} {P M A n : Nat} {s : St} (h : Cb w P M A n s) (b : Below w.heap.size w w') : Cb w' P M A n s :=
  ⟨(b.cell (p := ⟨P, 0, none⟩) (block_lt h.c0)).trans h.c0, (b.cell (p := ⟨P, 1, none⟩) (block_lt h.c1)).trans h.c1, (b.cell (p := ⟨P, 2, none⟩) (block_lt h.c2)).trans h.c2, frozen_kept h.f2 (block_lt h.c2) b, h.cd.kept b, h.cl.kept b, h.pm, h.pa, h.ma⟩
theorem Cb.alloc {w : World} {P M A n : Nat} {s : St} (h : Cb w P M A n s) (o : Obj) : Cb (w.alloc o) P M A n s := h.kept (balloc (Below.refl _ _) o)
theorem Cb.drewN {w : World} {P M A n : Nat} {s : St} (h : Cb w P M A n s) (q : Nat) : Cb (w.drewN q) P M A n s := h.kept (below_drewN (Below.refl _ _) q)
theorem Cb.raise {w : World} {P M A n : Nat} {s : St} (h : Cb w P M A n s) (r : Int) : Cb (w.setCell ⟨P, 2, none⟩ (.int .i64 r)) P M A n ⟨s.d, s.l, r⟩ where
  c0 := by rw [World.cell?_setCell_other _ _ _ _ (by simp)]; exact h.c0
  c1 := by rw [World.cell?_setCell_other _ _ _ _ (by simp)]; exact h.c1
  c2 := World.cell?_setCell_same _ _ _ h.c2
  f2 := by rw [World.frozen?_setCell]; exact h.f2
  cd := h.cd.far h.pm _
  cl := h.cl.far h.pa _
  pm := h.pm
  pa := h.pa
  ma := h.ma
theorem Cb.put {w : World} {P M A n : Nat} {s : St} (h : Cb w P M A n s) {t : Nat} (ht : t < n) (W i : Int) : Cb ((w.setCell ⟨M, t, none⟩ (.int .i64 W)).setCell ⟨A, t, none⟩ (.int .i64 i)) P M A n ⟨upd s.d t W, upd s.l t i, s.r⟩ where
  c0 := by rw [World.cell?_setCell_other _ _ _ _ (fun q => h.pa (by injection q with q; exact q.symm)), World.cell?_setCell_other _ _ _ _ (fun q => h.pm (by injection q with q; exact q.symm))]; exact h.c0
  c1 := by rw [World.cell?_setCell_other _ _ _ _ (fun q => h.pa (by injection q with q; exact q.symm)), World.cell?_setCell_other _ _ _ _ (fun q => h.pm (by injection q with q; exact q.symm))]; exact h.c1
  c2 := by rw [World.cell?_setCell_other _ _ _ _ (fun q => h.pa (by injection q with q; exact q.symm)), World.cell?_setCell_other _ _ _ _ (fun q => h.pm (by injection q with q; exact q.symm))]; exact h.c2
  f2 := by rw [World.frozen?_setCell, World.frozen?_setCell]; exact h.f2
  cd := (h.cd.put ht (upd_same _ _ _) (fun j _ hj => upd_other _ _ _ _ hj)).far (fun q => h.ma q.symm) _
  cl := (h.cl.far h.ma _).put ht (upd_same _ _ _) (fun j _ hj => upd_other _ _ _ _ hj)
  pm := h.pm
  pa := h.pa
  ma := h.ma

set_option maxHeartbeats 3200000 in
theorem pass_any (n : Nat) (es : List Eg) (hG : Gph n es) (k : Nat) (hk3 : k ≤ 300) (P M A : Nat) (a : Option Addr) (cap : Nat) (v0 w : World) (hE : GRow v0 a es) (hB : Below v0.heap.size v0 w)
    (hP : v0.heap.size ≤ P) (hM : v0.heap.size ≤ M) (hA : v0.heap.size ≤ A) (hC : Cb w P M A n (cst es k)) :
    Calls Tryz.prog 85 #[.pointer (some ⟨P, 0, none⟩), .slice a es.length cap] w fun e w' => e = .returned (.tuple #[]) ∧ Cb w' P M A n (cst es (k + 1)) ∧ Below v0.heap.size v0 w' := by
  have hm4 := hG.m4
  have hst := hC.raise (-1)
  have hB1 : Below v0.heap.size v0 (w.setCell ⟨P, 2, none⟩ (.int .i64 (-1))) := Below.setCell hB hP _
  obtain ⟨c0, c1, c2, f2, _, _, _, _, _⟩ := hC
  obtain ⟨m, hm⟩ : ∃ m, es.length = m := ⟨_, rfl⟩
  have hlm : Hid (es.length = m) := hm
  have hend : Hid (cst es (k + 1) = pst es (cst es k) m) := by rw [← hm]; rfl
  have hgh : Hid (Gph n es) := hG
  rw [hm] at hm4 ⊢
  clear hm hG hB
  go_enter Tryz.func85, Tryz.ntmps85
  go_wp2
  clear c0 c1 c2 f2
  go_loopw [12] (fun i wr => ∃ j : Nat, j ≤ m ∧ i = .int .i64 j ∧ Cb wr P M A n (pst es (cst es k) j) ∧ Below v0.heap.size v0 wr) (fun i _ => m - (intOf i).toNat)
  case atStart => exact ⟨0, Nat.zero_le _, rfl, hst, hB1⟩
  case round =>
    obtain ⟨j, hj, rfl, hC, hB⟩ := hrel
    clear hst hB1
    by_cases hlt : j < m
    · have q1 := hlm.out
      have G := hgh.out
      have hi := G.inn _ (eg_mem (es := es) (i := j) (by omega))
      have hx := G.wgt _ (eg_mem (es := es) (i := j) (by omega))
      obtain ⟨b, off, rfl, e1⟩ := (hE.kept hB).at (by omega)
      obtain ⟨cx, cy, cz⟩ := e1 j (by omega)
      have hjI : (j : Int) < m := by omega
      have hnext : Hid (pst es (cst es k) (j + 1) = stp (pst es (cst es k) j) j (eg es j)) := rfl
      have rf := pst_range G.inn G.wgt (by omega) hk3 (i := j) (by omega) (eg es j).f
      have rt := pst_range G.inn G.wgt (by omega) hk3 (i := j) (by omega) (eg es j).t
      obtain ⟨s1, hse⟩ : ∃ s1, pst es (cst es k) (j + 1) = s1 := ⟨_, rfl⟩
      rw [hse] at hnext
      replace hse : Hid _ := hse
      generalize pst es (cst es k) j = s at hC hnext rf rt
      obtain ⟨⟨f, t, x⟩, he⟩ : ∃ e, eg es j = e := ⟨_, rfl⟩
      rw [he] at cx cy cz hi hx hnext rf rt
      simp only at cx cy cz hi hx rf rt
      clear e1 q1 G he
      have hC1 := hC.alloc (.cells #[.int .i64 (f : Int), .int .i64 (t : Int), .int .i64 x] 81)
      have hB2 : Below v0.heap.size v0 (wr.alloc (.cells #[.int .i64 (f : Int), .int .i64 (t : Int), .int .i64 x] 81)) := hB.alloc hB.size _
      have x0 : (wr.alloc (.cells #[.int .i64 (f : Int), .int .i64 (t : Int), .int .i64 x] 81)).cell? ⟨wr.heap.size, 0, none⟩ = some (.int .i64 f) := by rw [World.cell?_alloc_at _ _ _ _ rfl]; rfl
      have x1 : (wr.alloc (.cells #[.int .i64 (f : Int), .int .i64 (t : Int), .int .i64 x] 81)).cell? ⟨wr.heap.size, 1, none⟩ = some (.int .i64 t) := by rw [World.cell?_alloc_at _ _ _ _ rfl]; rfl
      have x2 : (wr.alloc (.cells #[.int .i64 (f : Int), .int .i64 (t : Int), .int .i64 x] 81)).cell? ⟨wr.heap.size, 2, none⟩ = some (.int .i64 x) := by rw [World.cell?_alloc_at _ _ _ _ rfl]; rfl
      have hEM : wr.heap.size ≠ M := fun q => by have : M < wr.heap.size := block_lt (hC.cd.c t hi.2); omega
      have hEA : wr.heap.size ≠ A := fun q => by have : A < wr.heap.size := block_lt (hC.cl.c t hi.2); omega
      have hEP : wr.heap.size ≠ P := fun q => by have : P < wr.heap.size := block_lt hC.c2; omega
      obtain ⟨W1, hW1⟩ : ∃ W1, wr.alloc (.cells #[.int .i64 (f : Int), .int .i64 (t : Int), .int .i64 x] 81) = W1 := ⟨_, rfl⟩
      obtain ⟨E, hEE⟩ : ∃ E, wr.heap.size = E := ⟨_, rfl⟩
      rw [hW1] at hC1 hB2 x0 x1 x2
      rw [hEE] at x0 x1 x2 hEM hEA hEP
      have c0 := hC1.c0
      have c1 := hC1.c1
      have cf := hC1.cd.c f hi.1
      have ct := hC1.cd.c t hi.2
      have fI : (f : Int) < (n : Int) := by omega
      have tI : (t : Int) < (n : Int) := by omega
      obtain ⟨W, hW⟩ : ∃ W, s.d f + x = W := ⟨_, rfl⟩
      have hWw : IntKind.i64.wrap (s.d f + x) = W := by rw [← hW]; exact wrap_in (by omega)
      have hWv : wrap64 (s.d f + x) = W := by rw [← hW]; exact IntWalk.wrap64_in _ (by omega)
      clear hC hB hE
      by_cases hr : s.d t < W
      · have hs1 : Hid (s1 = ⟨upd s.d t W, upd s.l t j, (t : Int)⟩) := (by rw [hnext.out, stp_yes (e := ⟨f, t, x⟩) (by simp only; omega)]; simp only; rw [hW] : s1 = ⟨upd s.d t W, upd s.l t j, (t : Int)⟩)
        have d : decide (s.d t < W) = true := decide_eq_true hr
        have fm := hC1.cd.fz t hi.2
        have fa := hC1.cl.fz t hi.2
        have ca := hC1.cl.c t hi.2
        have hN : ∀ q : Nat, Cb ((((W1.drewN q).setCell ⟨M, t, none⟩ (.int .i64 W)).setCell ⟨A, t, none⟩ (.int .i64 (j : Int))).setCell ⟨P, 2, none⟩ (.int .i64 (t : Int))) P M A n s1 := fun q => by
          rw [hs1.out]; exact ((hC1.drewN q).put hi.2 W j).raise t
        have hBn : ∀ q : Nat, Below v0.heap.size v0 ((((W1.drewN q).setCell ⟨M, t, none⟩ (.int .i64 W)).setCell ⟨A, t, none⟩ (.int .i64 (j : Int))).setCell ⟨P, 2, none⟩ (.int .i64 (t : Int))) := fun q => Below.setCell (Below.setCell (Below.setCell (below_drewN hB2 q) hM _) hA _) hP _
        have c2 := hC1.c2
        have f2 := hC1.f2
        have pm := hC1.pm
        have pa := hC1.pa
        have ma := hC1.ma
        have pm' := Ne.symm hC1.pm
        have pa' := Ne.symm hC1.pa
        have ma' := Ne.symm hC1.ma
        replace hN : Hid _ := hN
        replace hBn : Hid _ := hBn
        replace hnext : Hid _ := hnext
        replace hW : Hid _ := hW
        clear hC1 hr
        generalize s.d f = df at *
        generalize s.d t = dt at *
        generalize s.l t = lt at *
        generalize s.r = r at *
        go_wp2
        go_quiet (fail)
        go_wp2
        go_quiet (fail)
        go_wp2
        go_region
        all_goals
          go_wp2
          go_roundw
          case rel => exact ⟨j + 1, by omega, by go_num, by rw [hse.out]; exact hN.out _, hBn.out _⟩
          case measure => simp [intOf]; omega
      · have hs1 : Hid (s1 = s) := (by rw [hnext.out, stp_no (e := ⟨f, t, x⟩) (by simp only; omega)] : s1 = s)
        have d : decide (s.d t < W) = false := decide_eq_false hr
        have hN : ∀ q : Nat, Cb (W1.drewN q) P M A n s1 := fun q => by rw [hs1.out]; exact hC1.drewN q
        replace hN : Hid _ := hN
        replace hW : Hid _ := hW
        clear hC1 hr hnext
        generalize s.d f = df at *
        generalize s.d t = dt at *
        go_wp2
        go_quiet (fail)
        go_wp2
        go_quiet (fail)
        go_wp2
        go_roundw
        case rel => exact ⟨j + 1, by omega, by go_num, by rw [hse.out]; first | exact hN.out _ | (rw [World.drewN_drewN]; exact hN.out _), by first | exact below_drewN hB2 _ | exact below_drewN (below_drewN hB2 _) _⟩
        case measure => simp [intOf]; omega
    · obtain rfl : m = j := by omega
      rw [← hend.out] at hC
      go_wp2
      go_end0
      exact ⟨rfl, hC, hB⟩

end Go.Proofs.YtjageagnclmnjaaGreatDoor.Q

namespace Go.Proofs.YtjageagnclmnjaaGreatDoor.Q
set_option maxRecDepth 100000
open Go.RowKit

theorem mul1 (n : Nat) (hn : n ≤ 300) (w : World) : Calls Tryz.prog 123 #[.int .u64 1, .int .u64 n] w fun e w' => e = .returned (.tuple #[.int .u64 0, .int .u64 n]) ∧ w' = w :=
  (Tryz.bits_Mul 1 n (by omega) (by omega) w).mono fun e w' ⟨he, hw⟩ => by
    refine ⟨?_, hw⟩
    rw [he, Nat.one_mul, Nat.div_eq_of_lt (by omega), Nat.mod_eq_of_lt (by omega)]
    rfl

theorem Tryz.size3 : (Tryz.prog.info? 3).map (·.size) = some 1 := by kernel_rfl

/-- so many of n places hold x -/
structure Rep (w : World) (n : Nat) (x : Int) (m : Nat) (cur : List Value) (wr : World) : Prop where
  blk : wr.heap[w.heap.size]? = some (.cells cur.toArray 3 (0, 0))
  len : cur.length = n
  val : ∀ j, j < m → cur[j]? = some (.int .i64 x)
  below : Below w.heap.size w wr

theorem splice_get {α : Type} (L : List α) (m : Nat) (cs : List α) (hm : m + cs.length ≤ L.length) (j : Nat) (hj : j < m + cs.length) : (splice L m cs)[j]? = if j < m then L[j]? else cs[j - m]? := by
  unfold splice
  by_cases h : j < m
  · rw [if_pos h, List.getElem?_append_left (by simp; omega), List.getElem?_take_of_lt h]
  · rw [if_neg h, List.getElem?_append_right (by simp; omega), List.length_take, Nat.min_eq_left (by omega), List.getElem?_append_left (by omega)]

theorem Rep.step {w : World} {n : Nat} {x : Int} {m q : Nat} {cur : List Value} {wr w2 : World} (h : Rep w n x m cur wr) (hq : m + q ≤ n)
    (hb : w2.heap[w.heap.size]? = some (.cells (splice cur m (List.replicate q (.int .i64 x))).toArray 3 (0, 0))) (hB : Below w.heap.size w w2) : Rep w n x (m + q) (splice cur m (List.replicate q (.int .i64 x))) w2 := by
  refine ⟨hb, by rw [length_splice _ _ _ (by rw [List.length_replicate, h.len]; exact hq), h.len], fun j hj => ?_, hB⟩
  rw [splice_get _ _ _ (by rw [List.length_replicate, h.len]; exact hq) j (by rw [List.length_replicate]; exact hj)]
  by_cases e : j < m
  · rw [if_pos e]; exact h.val j e
  · rw [if_neg e, List.getElem?_replicate, if_pos (by omega)]

theorem Rep.cell {w : World} {n : Nat} {x : Int} {m : Nat} {cur : List Value} {wr : World} (h : Rep w n x m cur wr) (j : Nat) (hj : j < m) : wr.cell? ⟨w.heap.size, j, none⟩ = some (.int .i64 x) := by
  simp [World.cell?, h.blk]
  simpa using h.val j hj

theorem Rep.cells {w : World} {n : Nat} {x : Int} {cur : List Value} {wr : World} (h : Rep w n x n cur wr) : Cells wr w.heap.size n fun _ => x :=
  ⟨fun j hj => h.cell j hj, fun j _ => by simp [World.frozen?, h.blk]⟩

/-- one copy more -/
theorem Rep.copy {w : World} {n : Nat} {x : Int} {m : Nat} {cur : List Value} {wr : World} (h : Rep w n x m cur wr) (ad : Addr) (sLen sCap dLen dCap q : Nat) (hd : m + dLen = n) (hq : q = Nat.min sLen dLen)
    (hsrc : ∀ j, j < q → wr.cell? (ad.add j) = some (.int .i64 x)) :
    ∃ w2 cur2, (Builtin.copy_ #[66, 66] 3 #[.slice (some ⟨w.heap.size, m, none⟩) dLen dCap, .slice (some ad) sLen sCap]).run Tryz.prog wr = .ok (.int .i64 q) w2 ∧ Rep w n x (m + q) cur2 w2 := by
  have hqd : q ≤ dLen := by rw [hq]; exact Nat.min_le_right _ _
  have hr := run_copy_row (P := Tryz.prog) wr 66 66 3 3 w.heap.size m dLen dCap ad sLen sCap cur.toArray 3 (List.replicate q (.int .i64 x)) Tryz.underlying66 Tryz.size3 h.blk (by rw [List.length_replicate]; exact hq)
    (fun j v hj => by
      rw [List.getElem?_replicate] at hj
      split at hj
      · injection hj with hj; subst hj; exact hsrc j (by assumption)
      · cases hj)
    (by rw [List.length_replicate, List.size_toArray, h.len]; omega) (fun v hv => by rw [List.eq_of_mem_replicate hv]; rfl)
  rw [List.length_replicate] at hr
  refine ⟨_, _, hr, h.step (by omega) ?_ ?_⟩
  · rw [setRow_heap wr w.heap.size _ _ 3 _ h.blk]
    simp [splice]
  · exact below_setRow h.below (Nat.le_refl _) _

theorem Rep.drew {w : World} {n : Nat} {x : Int} {m : Nat} {cur : List Value} {wr : World} (h : Rep w n x m cur wr) : Rep w n x m cur wr.drew := ⟨h.blk, h.len, h.val, h.below.drew⟩

set_option maxRecDepth 100000 in
set_option maxHeartbeats 1600000 in
theorem repeat_any (b o c n : Nat) (x : Int) (w : World) (hx : w.cell? ⟨b, o, none⟩ = some (.int .i64 x)) (h2 : n ≤ 300) :
    Calls Tryz.prog 84 #[.slice (some ⟨b, o, none⟩) 1 c, .int .i64 n] w fun e w' => e = .returned (.slice (some ⟨w.heap.size, 0, none⟩) n n) ∧ Cells w' w.heap.size n (fun _ => x) ∧ w.heap.size < w'.heap.size ∧ Below w.heap.size w w' := by
  have hmk := run_make_row' (P := Tryz.prog) 66 3 (.int .i64 0) 8 Tryz.underlying66 Tryz.info3 rfl .i64 .i64 n (by omega) (by omega)
  have hst : Rep w n x 0 (madeCells #[.int .i64 0] n).toList (w.alloc (.cells (madeCells #[.int .i64 0] n) 3)) :=
    ⟨by show (w.heap.push _)[w.heap.size]? = _; simp, by simp [madeCells], fun j h => by omega, balloc (Below.refl _ _) _⟩
  have hxa : (w.alloc (.cells (madeCells #[.int .i64 0] n) 3)).cell? ⟨b, o, none⟩ = some (.int .i64 x) := (hst.below.cell (p := ⟨b, o, none⟩) (block_lt hx)).trans hx
  obtain ⟨q0, hq0⟩ : ∃ q, q = Nat.min 1 n := ⟨_, rfl⟩
  have hq2 : q0 ≤ 1 := by rw [hq0]; exact Nat.min_le_left _ _
  have hq3 : q0 ≤ n := by rw [hq0]; exact Nat.min_le_right _ _
  have hq1 : 1 ≤ q0 ∨ q0 = n := by
    by_cases e : 1 ≤ n
    · left; rw [hq0]; exact Nat.le_of_eq (Nat.min_eq_left e).symm
    · right; omega
  obtain ⟨w2, cur2, hcp, hR⟩ := hst.copy ⟨b, o, none⟩ 1 c n n q0 (by omega) hq0 (fun j hj => by
    obtain rfl : j = 0 := by omega
    exact hxa)
  rw [Nat.zero_add] at hR
  have HQ0 : Hid (q0 = Nat.min 1 n) := hq0
  clear hq0
  clear hst hxa
  go_enter Tryz.func84, Tryz.ntmps84
  go_wp2_with (go_at_call 123; refine (mul1 n h2 _).mono ?_; rintro e w ⟨rfl, rfl⟩)
  clear hcp hx hmk hq2
  go_loopw [8] (fun i wr => ∃ (m : Nat) (cur : List Value), (1 ≤ m ∨ m = n) ∧ m ≤ n ∧ i = .int .i64 m ∧ Rep w n x m cur wr) (fun i _ => n - (intOf i).toNat)
  case atStart => exact ⟨q0, cur2, hq1, hq3, rfl, hR⟩
  case round =>
    obtain ⟨m, cur, hm1, hmn, rfl, hR⟩ := hrel
    by_cases hlt : m < n
    · obtain ⟨d, hd⟩ : ∃ d, m + d = n := ⟨n - m, by omega⟩
      obtain ⟨q, hq⟩ : ∃ q, q = Nat.min m d := ⟨_, rfl⟩
      have hq1 : 1 ≤ q ∧ q ≤ d := by
        rw [hq]
        rcases Nat.le_total m d with e | e
        · rw [show Nat.min m d = m from Nat.min_eq_left e]; omega
        · rw [show Nat.min m d = d from Nat.min_eq_right e]; omega
      have hqm : q ≤ m := by rw [hq]; exact Nat.min_le_left _ _
      obtain ⟨w3, cur3, hcp, hR3⟩ := hR.drew.copy ⟨w.heap.size, 0, none⟩ m n (n - m) (n - m) q (by omega) (by rw [hq, show n - m = d by omega]) (fun j hj => by
        rw [Addr.add_lit, Nat.zero_add]
        exact hR.drew.cell j (by omega))
      have hm3 : (m : Int) < (n : Int) := by omega
      have HQ : Hid (q = Nat.min m d) := hq
      clear hq hR
      go_wp2
      go_region
      all_goals
        go_wp2
        go_roundw
        case rel => exact ⟨m + q, cur3, by omega, by omega, by go_num, hR3⟩
        case measure => simp [intOf]; omega
    · obtain rfl : m = n := by omega
      go_wp2
      go_ret
      exact ⟨rfl, hR.cells, lt_of_block hR.blk, hR.below⟩

end Go.Proofs.YtjageagnclmnjaaGreatDoor.Q
