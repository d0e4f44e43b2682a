/- PROVED: what potential.Weigh answers of a right graph, and of a wrong one. what potential.Weigh answers, lengths as letters. what mean.Best and mean.Greatest answer. where each place has an edge on there is a way round; the walk of the law TopMean. what is known of rules, states, pairs and rows of pairs and numbers that came in. CONDITIONS: none beyond each theorem's own. -/
import Derived.Test.YtjageagnclmnjaaGreatDoorX40QTold
import Derived.Test.YtjageagnclmnjaaGreatDoorM43Tel
import Derived.Test.YtjageagnclmnjaaGreatDoorM51MLf
import Derived.Test.YtjageagnclmnjaaGreatDoorM46Alt
import Derived.Test.YtjageagnclmnjaaGreatDoorX08DRow
import Derived.Test.YtjageagnclmnjaaGreatDoorM42SLCtl
import Derived.ProofKit
import Derived.OpenShut
import Derived.ShutString
import Derived.ChangeOld
import Derived.Below
import Derived.SizedLaws
import Derived.ChangeSame
import Derived.Lib.SmallJoins
section
namespace Go.Proofs.YtjageagnclmnjaaGreatDoor.Q
set_option maxRecDepth 100000
open Go.RowKit

/-- the first k numbers are a walk -/
def wkz (es : List Eg) (z : List Int) (k : Nat) : Prop := ∀ j, j < k → 0 ≤ z.getD j 0 ∧ z.getD j 0 < es.length ∧ (0 < j → (eg es (z.getD j 0).toNat).f = (eg es (z.getD (j - 1) 0).toNat).t)
instance (es : List Eg) (z : List Int) (k : Nat) : Decidable (wkz es z k) := inferInstanceAs (Decidable (∀ j, j < k → _))
/-- what the first k weigh, as the machine adds up -/
def wsz (es : List Eg) (z : List Int) : Nat → Int
  | 0 => 0
  | k + 1 => wrap64 (wsz es z k + (eg es (z.getD k 0).toNat).x)
/-- what Weigh tells of a right graph -/
def wge (es : List Eg) (z : List Int) : Int × Int := if wkz es z z.length then (wsz es z z.length, 0) else (0, 1)
theorem wge_yes {es : List Eg} {z : List Int} (h : wkz es z z.length) : wge es z = (wsz es z z.length, 0) := if_pos h
theorem wge_no {es : List Eg} {z : List Int} (h : ¬ wkz es z z.length) : wge es z = (0, 1) := if_neg h

set_option maxHeartbeats 3200000 in
theorem weigh_any (n : Nat) (es : List Eg) (hG : Gph n es) (a a1 : Option Addr) (cap cap1 : Nat) (z : List Int) (w : World) (hE : GRow w a es) (hz : Row w a1 z) (hl : z.length ≤ 9223372036854775807) :
    Calls Tryz.prog 40 #[.agg #[.int .i64 n, .slice a es.length cap], .slice a1 z.length cap1] w fun e w' => e = .returned (.tuple #[.int .i64 (wge es z).1, .int .i64 (wge es z).2]) ∧ Below w.heap.size w w' := by
  have hm4 := hG.m4
  have hB0 : Below w.heap.size w (w.alloc (.cells #[.int .i64 n, .slice a es.length cap] 52)) := balloc (Below.refl _ _) _
  have hw := wrong_any n a cap (es.map upE) (w.alloc (.cells #[.int .i64 n, .slice a es.length cap] 52)) (ERow.kept hE hB0) (by rw [List.length_map]; omega)
  rw [gwr_yes (gph_grt hG), List.length_map] at hw
  obtain ⟨p, hp⟩ : ∃ p, z.length = p := ⟨_, rfl⟩
  have hyes : Hid (wkz es z p → (wge es z).1 = wsz es z p ∧ (wge es z).2 = 0) := fun h => by rw [wge_yes (by rw [hp]; exact h), hp]; exact ⟨rfl, rfl⟩
  have hno : Hid (¬ wkz es z p → (wge es z).1 = 0 ∧ (wge es z).2 = 1) := fun h => by rw [wge_no (by rw [hp]; exact h)]; exact ⟨rfl, rfl⟩
  generalize (wge es z).1 = A1 at hyes hno ⊢
  generalize (wge es z).2 = A2 at hyes hno ⊢
  have hzp : Hid (z.length = p) := hp
  rw [hp] at hl ⊢
  clear hp
  have hinn : Hid (Gph n es) := hG
  have K0 := Gb.new w n a es.length cap
  have hE0 := hE.kept hB0
  have hz0 := hz.kept hB0
  obtain ⟨m, hm⟩ : ∃ m, es.length = m := ⟨_, rfl⟩
  have hlm : Hid (es.length = m) := hm
  rw [hm] at hB0 hw K0 hE0 hz0 hm4 ⊢
  clear hm hG hE hz
  obtain ⟨w0, hw0⟩ : ∃ w0, w.alloc (.cells #[.int .i64 n, .slice a m cap] 52) = w0 := ⟨_, rfl⟩
  rw [hw0] at K0 hB0 hE0 hz0 hw
  obtain ⟨c0, c1⟩ := id K0
  go_enter Tryz.func40, Tryz.ntmps40
  go_wp2_with (go_at_call 53; refine hw.mono ?_; rintro e w1 ⟨rfl, b1⟩; clear hw; have K1 := K0.kept b1; have hE1 := hE0.kept b1; have hz1 := hz0.kept b1)
  clear K0 hE0 hz0 c0 c1
  have hB1 := bthen hB0 b1
  clear hB0 b1
  go_loopw [7, 18] (fun s i wr => ∃ k : Nat, k ≤ p ∧ i = .int .i64 k ∧ s = .int .i64 (wsz es z k) ∧ wkz es z k ∧ Below w1.heap.size w1 wr) (fun _ i _ => p - (intOf i).toNat)
  case atStart => exact ⟨0, Nat.zero_le _, rfl, rfl, fun j hj => by omega, Below.refl _ _⟩
  case round =>
    obtain ⟨k, hk, rfl, rfl, hA, hB⟩ := hrel
    by_cases hlt : k < p
    · have q1 := hzp.out
      have q2 := hlm.out
      obtain ⟨g1, o1, rfl, e1⟩ := (hz1.kept hB).at (by omega)
      have cx := e1 k (by omega)
      obtain ⟨g0, g1'⟩ := K1.kept hB
      have hkI : (k : Int) < p := by omega
      have hno2 : Hid (¬ (0 ≤ z.getD k 0 ∧ z.getD k 0 < m ∧ (0 < k → (eg es (z.getD k 0).toNat).f = (eg es (z.getD (k - 1) 0).toNat).t)) → A1 = 0 ∧ A2 = 1) := fun h => hno.out fun q => h (by rw [← q2]; exact q k hlt)
      have hA2 : Hid ((0 ≤ z.getD k 0 ∧ z.getD k 0 < m ∧ (0 < k → (eg es (z.getD k 0).toNat).f = (eg es (z.getD (k - 1) 0).toNat).t)) → wkz es z (k + 1)) := fun h j hj => by
        by_cases e : j = k
        · subst e; rw [q2]; exact h
        · exact hA j (by omega)
      have hSS : Hid (wsz es z (k + 1) = wrap64 (wsz es z k + (eg es (z.getD k 0).toNat).x)) := rfl
      clear hno hyes
      by_cases h0 : z.getD k 0 < 0
      · obtain ⟨rfl, rfl⟩ := hno2.out fun q => by omega
        have d0 : decide (z.getD k 0 < 0) = true := decide_eq_true h0
        generalize z.getD k 0 = x at *
        clear hno2 hA2 hSS e1 hA q1 q2
        go_wp2
        go_ret2
        exact ⟨rfl, bthen hB1 hB⟩
      · have d0 : decide (z.getD k 0 < 0) = false := decide_eq_false h0
        by_cases h1 : (m : Int) ≤ z.getD k 0
        · obtain ⟨rfl, rfl⟩ := hno2.out fun q => by omega
          have d1 : decide ((m : Int) ≤ z.getD k 0) = true := decide_eq_true h1
          generalize z.getD k 0 = x at *
          clear hno2 hA2 hSS e1 hA q1 q2
          go_wp2
          go_ret2
          exact ⟨rfl, bthen hB1 hB⟩
        · have d1 : decide ((m : Int) ≤ z.getD k 0) = false := decide_eq_false h1
          obtain ⟨q, hq⟩ : ∃ q : Nat, z.getD k 0 = (q : Int) := ⟨(z.getD k 0).toNat, by omega⟩
          rw [hq] at cx d0 d1 hno2 hA2 hSS h1
          have hqm : q < m := by omega
          obtain ⟨b, off, rfl, e2⟩ := (hE1.kept hB).at (by omega)
          obtain ⟨ex, ey, ez⟩ := e2 q (by omega)
          have hqI : (q : Int) < (m : Int) := by omega
          rw [Int.toNat_natCast] at hno2 hA2 hSS
          obtain ⟨g2, g3⟩ := (K1.kept hB).alloc (.cells #[.int .i64 ((eg es q).f : Int), .int .i64 ((eg es q).t : Int), .int .i64 (eg es q).x] 81)
          have hB2 : Below w1.heap.size w1 (wr.alloc (.cells #[.int .i64 ((eg es q).f : Int), .int .i64 ((eg es q).t : Int), .int .i64 (eg es q).x] 81)) := balloc hB _
          by_cases hk0 : k = 0
          · have hA3 := hA2.out ⟨by omega, by omega, fun h => by omega⟩
            replace hA3 : Hid _ := hA3
            have d2 : decide ((0 : Int) < (k : Int)) = false := decide_eq_false (by omega)
            have d3 : decide (0 < k) = false := decide_eq_false (by omega)
            replace hk0 : Hid _ := hk0
            generalize ((eg es q).f : Int) = f at *
            generalize ((eg es q).t : Int) = t at *
            generalize (eg es q).x = x at *
            obtain ⟨S1, hS1⟩ : ∃ S1, wrap64 (wsz es z k + x) = S1 := ⟨_, rfl⟩
            have hS2 : Hid (wsz es z (k + 1) = S1) := hSS.out.trans hS1
            generalize wsz es z k = S at *
            clear hno2 hA2 hSS e1 hA q1 q2 e2 hq h0 h1
            go_wp2
            go_quiet (fail)
            go_wp2
            go_roundw
            case rel => exact ⟨k + 1, by omega, by go_num, by rw [hS2.out, ← hS1], hA3.out, by first | exact below_drewN hB2 _ | exact hB2⟩
            case measure => simp [intOf]; omega
          · obtain ⟨kk, hkk⟩ : ∃ kk, k = kk + 1 := ⟨k - 1, by omega⟩
            have hp1 := hA kk (by omega)
            obtain ⟨r, hr⟩ : ∃ r : Nat, z.getD kk 0 = (r : Int) := ⟨(z.getD kk 0).toNat, by omega⟩
            have cy := (((hz1.kept hB).alloc (.cells #[.int .i64 ((eg es q).f : Int), .int .i64 ((eg es q).t : Int), .int .i64 (eg es q).x] 81)).at (by omega))
            obtain ⟨g5, o5, hg5, e5⟩ := cy
            injection hg5 with hg5
            injection hg5 with hg5 ho5 _
            subst hg5 ho5
            have cy := e5 kk (by omega)
            obtain ⟨g6, o6, hg6, e6⟩ := (((hE1.kept hB).alloc (.cells #[.int .i64 ((eg es q).f : Int), .int .i64 ((eg es q).t : Int), .int .i64 (eg es q).x] 81)).at (by omega))
            injection hg6 with hg6
            injection hg6 with hg6 ho6 _
            subst hg6 ho6
            obtain ⟨_, fy, _⟩ := e6 r (by omega)
            rw [hr] at cy hp1
            have hrI : (r : Int) < (m : Int) := by omega
            have hkkI : (kk : Int) < (p : Int) := by omega
            have hkI1 : (k : Int) - 1 = (kk : Int) := by omega
            have hwk : IntKind.i64.wrap (kk : Int) = (kk : Int) := wrap_in (by omega)
            have d2 : decide ((0 : Int) < (k : Int)) = true := decide_eq_true (by omega)
            have d3 : decide (0 < k) = true := decide_eq_true (by omega)
            rw [show k - 1 = kk by omega, hr, Int.toNat_natCast] at hno2 hA2
            replace hkk : Hid _ := hkk
            clear e5 e6 hp1
            by_cases hft : (eg es q).f = (eg es r).t
            · have hA3 := hA2.out ⟨by omega, by omega, fun _ => hft⟩
              replace hA3 : Hid _ := hA3
              have d4 : (((eg es q).f : Int) == ((eg es r).t : Int)) = true := beq_iff_eq.2 (by omega)
              clear hft hno2 hA2
              generalize ((eg es q).f : Int) = f at *
              generalize ((eg es q).t : Int) = t at *
              generalize ((eg es r).t : Int) = tr at *
              generalize (eg es q).x = x at *
              obtain ⟨S1, hS1⟩ : ∃ S1, wrap64 (wsz es z k + x) = S1 := ⟨_, rfl⟩
              have hS2 : Hid (wsz es z (k + 1) = S1) := hSS.out.trans hS1
              generalize wsz es z k = S at *
              clear hSS e1 hA q1 q2 e2 hq h0 h1 hr
              go_wp2
              go_quiet (fail)
              go_wp2
              go_roundw
              case rel => exact ⟨k + 1, by omega, by go_num, by rw [hS2.out, ← hS1], hA3.out, by first | exact below_drewN hB2 _ | exact hB2⟩
              case measure => simp [intOf]; omega
            · obtain ⟨rfl, rfl⟩ := hno2.out fun q => hft (q.2.2 (by have := hkk.out; omega))
              have d4 : (((eg es q).f : Int) == ((eg es r).t : Int)) = false := beq_eq_false_iff_ne.2 (by omega)
              clear hft hno2 hA2
              generalize ((eg es q).f : Int) = f at *
              generalize ((eg es q).t : Int) = t at *
              generalize ((eg es r).t : Int) = tr at *
              generalize (eg es q).x = x at *
              generalize wsz es z k = S at *
              clear hSS e1 hA q1 q2 e2 hq h0 h1 hr
              go_wp2
              go_quiet (fail)
              go_wp2
              go_ret2
              exact ⟨rfl, by first | exact bthen hB1 (below_drewN hB2 _) | exact bthen hB1 hB2⟩
    · obtain rfl : p = k := by omega
      obtain ⟨rfl, rfl⟩ := hyes.out hA
      clear hA hyes hno
      go_wp2
      go_ret2
      exact ⟨rfl, bthen hB1 hB⟩

end Go.Proofs.YtjageagnclmnjaaGreatDoor.Q

end

section
namespace Go.Proofs.YtjageagnclmnjaaGreatDoor.Q
set_option maxRecDepth 100000
open Go.RowKit

section
variable (n : Nat) (es : List Eg) (hG : Gph n es) (a : Option Addr) (cap m : Nat) (hm : es.length = m)
include hG hm
theorem weigh_n (a1 : Option Addr) (cap1 p : Nat) (z : List Int) (hzp : z.length = p) (hl : p ≤ 9223372036854775807) (w : World) (hE : GRow w a es) (hz : Row w a1 z) (A1 A2 : Int) (hA : wge es z = (A1, A2)) :
    Calls Tryz.prog 40 #[.agg #[.int .i64 n, .slice a m cap], .slice a1 p cap1] w fun e w' => e = .returned (.tuple #[.int .i64 A1, .int .i64 A2]) ∧ Below w.heap.size w w' := by
  have := weigh_any n es hG a a1 cap cap1 z w hE hz (by omega)
  rw [hm, hzp, hA] at this
  exact this
end
theorem wsz_nsum {es : List Eg} (hw : Wgt es) {z : List Int} {R : Nat → Nat} (p : Nat) (hp : p ≤ 8796093022207) (h : ∀ j, j < p → z.getD j 0 = (R j : Int) ∧ R j < es.length) : wsz es z p = nsum es R p := by
  induction p with
  | zero => rfl
  | succ p ih =>
    have hr := nsum_range hw R (p + 1) fun j hj => (h j hj).2
    show wrap64 (wsz es z p + (eg es (z.getD p 0).toNat).x) = nsum es R p + (eg es (R p)).x
    rw [ih (by omega) fun j hj => h j (by omega), (h p (by omega)).1, Int.toNat_natCast]
    exact IntWalk.wrap64_in _ (by
      have e : nsum es R (p + 1) = nsum es R p + (eg es (R p)).x := rfl
      rw [← e]; omega)
theorem wge_wok {n : Nat} {es : List Eg} (hG : Gph n es) {R : Nat → Nat} {p : Nat} (hp : p ≤ 300) (h : Wok es R p) : wge es (outs (fun j => (R j : Int)) p) = (nsum es R p, 0) := by
  have hg : ∀ j, j < p → (outs (fun j => (R j : Int)) p).getD j 0 = (R j : Int) := fun j hj => outs_getD _ _ _ hj
  rw [wge_yes, outs_len, wsz_nsum hG.wgt p (by omega) fun j hj => ⟨hg j hj, (h j hj).1⟩]
  rw [outs_len]
  intro j hj
  obtain ⟨h1, h2⟩ := h j hj
  refine ⟨by rw [hg j hj]; omega, by rw [hg j hj]; omega, fun h0 => ?_⟩
  rw [hg j hj, hg (j - 1) (by omega), Int.toNat_natCast, Int.toNat_natCast]
  exact h2 h0

end Go.Proofs.YtjageagnclmnjaaGreatDoor.Q

end

section
namespace Go.Proofs.YtjageagnclmnjaaGreatDoor.Q
set_option maxRecDepth 100000
open Go.RowKit
set_option linter.unusedVariables false

set_option maxHeartbeats 1600000 in
/-- what Best does with a right graph -/
theorem best_of (n : Nat) (es : List Eg) (hG : Gph n es) (a : Option Addr) (cap m : Nat) (hm : es.length = m) (w : World) (hE : GRow w a es) :
    Calls Tryz.prog 39 #[.agg #[.int .i64 n, .slice a m cap]] w fun e w' => (∃ (N : Int) (s : Int × Int), Stp es n n N s ∧ ((N = -1 ∧ e = .returned (.tuple #[.slice none 0 0, .int .i64 3])) ∨
      ∃ v y G cc i j, v < n ∧ N = (v : Int) ∧ tb es n v = some y ∧ e = .returned (.tuple #[.slice (some ⟨G, j, none⟩) (i - j) (cc - j), .int .i64 0]) ∧ j < i ∧ i ≤ n ∧ i ≤ cc ∧ bn es n v i = bn es n v j ∧ Cat w' G j (i - j) (fun t => (br es n v (i - 1 - t) : Int)))) ∧ Below w.heap.size w w' := by
  have hw : Hid (∀ v, GRow v a es → Calls Tryz.prog 53 #[.agg #[.int .i64 n, .slice a m cap]] v fun e w' => e = .returned (.int .i64 0) ∧ Below v.heap.size v w') := fun v h => wrong_yes n es hG a cap m hm v h
  have hv : Hid (∀ v, GRow v a es → Calls Tryz.prog 62 #[.agg #[.int .i64 n, .slice a m cap]] v fun e w' => ∃ g c O, e = .returned (.slice (some ⟨g, 0, none⟩) (n + 1 : Nat) c) ∧ Tbl w' g c n O es ∧ Below v.heap.size v w') := fun v h => heaviest_any n es hG a cap m hm v h
  obtain ⟨N1, hN1⟩ : ∃ N1, N1 = n + 1 := ⟨_, rfl⟩
  rw [← hN1] at hv
  have hs : Hid (∀ g c O v, Tbl v g c n O es → Calls Tryz.prog 63 #[.slice (some ⟨g, 0, none⟩) N1 c] v fun e w' => ∃ (N : Int) (m : Int × Int), e = .returned (.int .i64 N) ∧ Stp es n n N m ∧ Below v.heap.size v w') := fun g c O v h => steepest_any n es hG g c O N1 hN1 v h
  have hgo : Hid (∀ g c O (u : Nat) (y : Int × Nat), u < n → tb es n u = some y → ∀ v, GRow v a es → Tbl v g c n O es → Calls Tryz.prog 64 #[.agg #[.int .i64 n, .slice a m cap], .slice (some ⟨g, 0, none⟩) N1 c, .int .i64 u] v fun e w' => ∃ G cc i j, e = .returned (.slice (some ⟨G, j, none⟩) (i - j) (cc - j)) ∧ j < i ∧ i ≤ n ∧ i ≤ cc ∧ bn es n u i = bn es n u j ∧ Cat w' G j (i - j) (fun t => (br es n u (i - 1 - t) : Int)) ∧ Below v.heap.size v w') := fun g c O u y hu hy v h1 h2 => gone18_any n es hG g c O N1 hN1 u hu y hy a cap m hm v h1 h2
  have B : Below w.heap.size w (w.alloc (.cells #[.int .i64 n, .slice a m cap] 52)) := balloc (Below.refl _ _) _
  have E := hE.kept B
  have K := Gb.new w n a m cap
  obtain ⟨w0, hw0⟩ : ∃ w0, w.alloc (.cells #[.int .i64 n, .slice a m cap] 52) = w0 := ⟨_, rfl⟩
  rw [hw0] at B E K
  obtain ⟨g0, g1⟩ := id K
  replace hN1 : Hid _ := hN1
  clear hE hG hm
  go_enter Tryz.func39, Tryz.ntmps39
  go_wp2_with (first
    | (go_at_call 53; refine (hw.out _ E).mono ?_; rintro e w1 ⟨rfl, bb⟩; clear hw; replace E := E.kept bb; replace K := K.kept bb; replace B := bthen B bb; clear g0 g1 bb; obtain ⟨g0, g1⟩ := id K)
    | (go_at_call 62; refine (hv.out _ E).mono ?_; rintro e w2 ⟨g, c, O, rfl, T, bb⟩; clear hv; replace E := E.kept bb; replace K := K.kept bb; replace B := bthen B bb; clear g0 g1 bb; obtain ⟨g0, g1⟩ := id K)
    | (go_at_call 63; refine (hs.out g c O _ T).mono ?_; rintro e w3 ⟨N, s, rfl, hS, bb⟩; clear hs; replace E := E.kept bb; replace K := K.kept bb; replace T := T.kept bb; replace B := bthen B bb; clear g0 g1 bb; obtain ⟨g0, g1⟩ := id K; generalize hbb : (N == -1) = bq))
  · have hb : bq = true := by assumption
    rw [hb] at hbb
    have hN : N = -1 := beq_iff_eq.1 hbb
    refine bodyPost_ret (v := .tuple #[.slice none 0 0, .int .i64 3]) (by simp [results, Tryz.results39, go_sem]) rfl ⟨⟨N, s, hS, .inl ⟨hN, rfl⟩⟩, B⟩
  · have hb : bq = false := by assumption
    rw [hb] at hbb
    have hN : N ≠ -1 := beq_eq_false_iff_ne.1 hbb
    obtain ⟨u, hu, rfl, hL, _⟩ := hS.yes hN
    obtain ⟨y, hy⟩ := hL.in
    refine (hgo.out g c O u y hu hy _ E T).mono ?_
    rintro e w4 ⟨G, cc, i, j, rfl, h1, h2, h3, h4, h5, bb⟩
    replace B := bthen B bb
    clear hgo hL bb
    go_wp2
    refine bodyPost_ret (v := .tuple #[.slice (some ⟨G, j, none⟩) (i - j) (cc - j), .int .i64 0]) (by simp [results, Tryz.results39, go_sem]) rfl ⟨⟨_, s, hS, .inr ⟨u, y, G, cc, i, j, hu, rfl, hy, rfl, h1, h2, h3, h4, h5⟩⟩, B⟩

theorem best_none : BNone := by
  intro n es hG a cap m hm hc w hE
  refine (best_of n es hG a cap m hm w hE).mono ?_
  rintro e w' ⟨⟨N, s, hS, ⟨_, he⟩ | ⟨v, y, G, cc, i, j, hv, _, hy, _⟩⟩, B⟩
  · exact ⟨he, B⟩
  · rw [tb_none hG.inn hc hv] at hy; cases hy

theorem best_some : BSome := by
  intro n es hG a cap m hm p q q1 qn hb hL w hE
  refine (best_of n es hG a cap m hm w hE).mono ?_
  rintro e w' ⟨⟨N, s, hS, h⟩, B⟩
  obtain ⟨v, y, hv, hN, hy, hge⟩ := hS.karp hG.inn hG.wgt hL
  rcases h with ⟨hn, _⟩ | ⟨v', y', G, cc, i, j, hv', hN', hy', he, h1, h2, h3, h4, h5⟩
  · omega
  · obtain rfl : v = v' := by omega
    rw [hy] at hy'; injection hy' with hy'; subst hy'
    obtain ⟨r1, r2, r3⟩ := back_round hL hy hge h1 h2 h4
    exact ⟨G, j, i - j, cc - j, fun t => br es n v (i - 1 - t), he, ⟨by omega, by omega, r1, r2, r3⟩, by omega, h5, B⟩

set_option maxHeartbeats 800000 in
theorem greatest_none : GNone := by
  intro n es hG a cap m hm hc w hE
  have hw : Hid (∀ v, GRow v a es → Calls Tryz.prog 39 #[.agg #[.int .i64 n, .slice a m cap]] v fun e w' => e = .returned (.tuple #[.slice none 0 0, .int .i64 3]) ∧ Below v.heap.size v w') := fun v h => best_none n es hG a cap m hm hc v h
  have B : Below w.heap.size w ((w.alloc (.cells #[.int .i64 n, .slice a m cap] 52)).alloc (.cells #[.int .i64 0, .int .i64 0] 56)) := balloc (balloc (Below.refl _ _) _) _
  have E := hE.kept B
  have K := (Gb.new w n a m cap).alloc (.cells #[.int .i64 0, .int .i64 0] 56)
  have F := Fr.new (w.alloc (.cells #[.int .i64 n, .slice a m cap] 52)) (w.heap.size + 1) (by simp) 0 0
  obtain ⟨w0, hw0⟩ : ∃ w0, (w.alloc (.cells #[.int .i64 n, .slice a m cap] 52)).alloc (.cells #[.int .i64 0, .int .i64 0] 56) = w0 := ⟨_, rfl⟩
  rw [hw0] at B E K F
  obtain ⟨g0, g1⟩ := id K
  clear hE hc hG hm
  go_enter Tryz.func18, Tryz.ntmps18
  go_wp2_with (go_at_call 39; refine (hw.out _ E).mono ?_; rintro e w1 ⟨rfl, b1⟩; clear hw; replace B := bthen B b1; replace F := F.kept b1; obtain ⟨f0, f1, f2, f3⟩ := id F)
  obtain ⟨z0, z1, _, _⟩ := F.put 0 0
  refine bodyPost_ret (v := .tuple #[.agg #[.int .i64 0, .int .i64 0], .int .i64 3]) (by simp [results, Tryz.results18, go_sem, z0, z1]) rfl ⟨rfl, put2S B (by omega) _ _⟩

set_option maxHeartbeats 1600000 in
theorem greatest_some : GSome := by
  intro n es hG a cap m hm p q q1 qn hb hL w hE
  have n3 := hG.n3
  have hw : Hid (∀ v, GRow v a es → Calls Tryz.prog 39 #[.agg #[.int .i64 n, .slice a m cap]] v fun e w' => ∃ g o k c R, e = .returned (.tuple #[.slice (some ⟨g, o, none⟩) k c, .int .i64 0]) ∧ Rbe n es p q R k ∧ k ≤ c ∧ Cat w' g o k (fun j => (R j : Int)) ∧ Below v.heap.size v w') := fun v h => best_some n es hG a cap m hm p q q1 qn hb hL v h
  have hwe : Hid (∀ (g o k c : Nat) (R : Nat → Nat), Rbe n es p q R k → ∀ v, GRow v a es → Cat v g o k (fun j => (R j : Int)) → Calls Tryz.prog 40 #[.agg #[.int .i64 n, .slice a m cap], .slice (some ⟨g, o, none⟩) k c] v fun e w' => e = .returned (.tuple #[.int .i64 (nsum es R k), .int .i64 0]) ∧ Below v.heap.size v w') := fun g o k c R hR v h hh => by
    refine weigh_n n es hG a cap m hm (some ⟨g, o, none⟩) c k (outs (fun j => (R j : Int)) k) (outs_len _ _) (by have := hR.kn; omega) v h hh.row _ _ ?_
    exact wge_wok hG (by have := hR.kn; omega) hR.wok
  have hlo : Hid (∀ (R : Nat → Nat) (k : Nat), Rbe n es p q R k → ∀ v, Calls Tryz.prog 41 #[.int .i64 (nsum es R k), .int .i64 (k : Int)] v fun e w' => ∃ P Q : Int, e = .returned (.agg #[.int .i64 P, .int .i64 Q]) ∧ Low P Q ∧ P * (q : Int) = p * Q ∧ Below v.heap.size v w') := fun R k hR v => by
    have k1 := hR.k1
    have kn := hR.kn
    have hsr := nsum_range hG.wgt R k fun j hj => (hR.wok j hj).1
    refine (lowest_any (nsum es R k) k v (by omega) (by omega) (by omega) (by omega)).mono ?_
    rintro e w' ⟨rfl, bb⟩
    obtain ⟨hl, he⟩ := low_of (nsum es R k) (k : Int) (by omega)
    refine ⟨_, _, rfl, hl, ?_, bb⟩
    have hj := hR.just
    refine Int.eq_of_mul_eq_mul_right (a := (k : Int)) (by omega) ?_
    show low1 (nsum es R k) k * (q : Int) * (k : Int) = p * low2 (nsum es R k) k * (k : Int)
    have he' : low1 (nsum es R k) k * (k : Int) = nsum es R k * low2 (nsum es R k) k := he
    calc low1 (nsum es R k) k * (q : Int) * (k : Int) = low1 (nsum es R k) k * (k : Int) * (q : Int) := by ac_rfl
      _ = nsum es R k * low2 (nsum es R k) k * (q : Int) := by rw [he']
      _ = (q : Int) * nsum es R k * low2 (nsum es R k) k := by ac_rfl
      _ = p * (k : Int) * low2 (nsum es R k) k := by rw [hj]
      _ = p * low2 (nsum es R k) k * (k : Int) := by ac_rfl
  have B : Below w.heap.size w ((w.alloc (.cells #[.int .i64 n, .slice a m cap] 52)).alloc (.cells #[.int .i64 0, .int .i64 0] 56)) := balloc (balloc (Below.refl _ _) _) _
  have E := hE.kept B
  have K := (Gb.new w n a m cap).alloc (.cells #[.int .i64 0, .int .i64 0] 56)
  have F := Fr.new (w.alloc (.cells #[.int .i64 n, .slice a m cap] 52)) (w.heap.size + 1) (by simp) 0 0
  obtain ⟨w0, hw0⟩ : ∃ w0, (w.alloc (.cells #[.int .i64 n, .slice a m cap] 52)).alloc (.cells #[.int .i64 0, .int .i64 0] 56) = w0 := ⟨_, rfl⟩
  rw [hw0] at B E K F
  obtain ⟨g0, g1⟩ := id K
  clear hE hG hm hL hb q1 qn
  go_enter Tryz.func18, Tryz.ntmps18
  go_wp2_with (first
    | (go_at_call 39; refine (hw.out _ E).mono ?_; rintro e w1 ⟨g, o, k, c, R, rfl, hR, hkc, C, bb⟩; clear hw; replace E := E.kept bb; replace K := K.kept bb; replace F := F.kept bb; replace B := bthen B bb; clear g0 g1; obtain ⟨g0, g1⟩ := id K)
    | (go_at_call 40; refine (hwe.out g o k c R hR _ E C).mono ?_; rintro e w2 ⟨rfl, bb⟩; clear hwe; replace F := F.kept bb; replace B := bthen B bb; have h16 := hlo.out R k hR; generalize nsum es R k = S at *)
    | (go_at_call 41; refine (h16 _).mono ?_; rintro e w3 ⟨P, Q, rfl, h1, h2, bb⟩; clear h16; replace F := F.kept bb; replace B := bthen B bb; obtain ⟨f0, f1, f2, f3⟩ := id F))
  obtain ⟨z0, z1, _, _⟩ := F.put P Q
  refine bodyPost_ret (v := .tuple #[.agg #[.int .i64 P, .int .i64 Q], .int .i64 0]) (by simp [results, Tryz.results18, go_sem, z0, z1]) rfl ⟨P, Q, rfl, h1, h2, put2S B (by omega) _ _⟩

end Go.Proofs.YtjageagnclmnjaaGreatDoor.Q

end

section
namespace Go.Proofs.YtjageagnclmnjaaGreatDoor.D
set_option maxRecDepth 100000
open Go.RowKit K
set_option linter.unusedVariables false

theorem all_cyc {n : Nat} {es : List Q.Eg} (h0 : 0 < n) (hn : Q.Inn n es) (hw : Q.Wgt es) (hs : ∀ u, u < n → ∃ e ∈ es, e.f = u) : ∃ l, Q.Cyc es l := by
  refine (Q.abv_least hw).1 ?_
  rw [Q.abv_sc]
  intro hp
  obtain ⟨d, hd⟩ := mst_some (Q.sc_inn hn (-1048577) 1) hp
  have key : ∀ k : Nat, ∃ v, v < n ∧ (k : Int) ≤ d v := by
    intro k
    induction k with
    | zero => exact ⟨0, h0, hd.2.1 0⟩
    | succ k ih =>
      obtain ⟨v, hv, hk⟩ := ih
      obtain ⟨e, he, hf⟩ := hs v hv
      have q := hd.1 ⟨e.f, e.t, e.x * 1 - (-1048577)⟩ (List.mem_map.2 ⟨e, he, rfl⟩)
      simp only at q
      rw [hf] at q
      have := hw e he
      exact ⟨e.t, (hn e he).2, by omega⟩
  obtain ⟨v, hv, hk⟩ := key ((mx d n).toNat + 1)
  have := mx_le (d := d) hv
  have := mx_zero d n
  omega
theorem esG_cyc {r : Ru} {T : Nat} {who ratio : Int} (ok : wrong r = 0) (hT : Dn r T) (hr : 1 ≤ ratio ∧ ratio ≤ 100) : ∃ l, Q.Cyc (esG r T who ratio) l := by
  have hG := gph (who := who) ok hT hr
  refine all_cyc (dn_pos hT).1 hG.inn hG.wgt fun u hu => ?_
  have hl : ee r * u < T := by
    have h1 : ee r * (u + 1) ≤ ee r * (xp r T).1.length := Nat.mul_le_mul_left _ hu
    rw [Nat.mul_add, Nat.mul_one] at h1
    have e := hT.2.1
    have := ee_pos r
    omega
  refine ⟨ed r T who ratio (ee r * u), esG_mem.2 ⟨_, hl, rfl⟩, ?_⟩
  show ee r * u / ee r = u
  exact Nat.mul_div_cancel_left _ (ee_pos r)

set_option maxHeartbeats 6400000 in
theorem men_bad (p0 p1 rr bf jt who ratio k m E : Int) (hE : (E != 0) = true) (w : World) (L : Lw w)
    (j0 : ∀ v, Calls Tryz.prog 14 #[.agg #[.int .i64 p0, .int .i64 p1, .int .i64 rr, .int .i64 bf, .int .i64 jt], .int .i64 who, .int .i64 ratio] v fun e w' => ∃ a na ca b nb cb, e = .returned (.tuple #[.agg #[.int .i64 k, .int .i64 m, .slice a na ca, .slice b nb cb], .int .i64 E]) ∧ Below v.heap.size v w')
    (gr : ∀ v, Calls Tryz.prog 17 #[.agg #[.int .i64 p0, .int .i64 p1, .int .i64 rr, .int .i64 bf, .int .i64 jt], .int .i64 who, .int .i64 ratio] v fun e w' => e = .returned (.tuple #[.agg #[.int .i64 0, .slice none 0 0], .int .i64 E]) ∧ Below v.heap.size v w')
    (gt : ∀ v, Calls Tryz.prog 18 #[.agg #[.int .i64 0, .slice none 0 0]] v fun e w' => e = .returned (.tuple #[.agg #[.int .i64 0, .int .i64 0], .int .i64 3]) ∧ Below v.heap.size v w') :
    Calls Tryz.prog 6 #[.agg #[.int .i64 p0, .int .i64 p1, .int .i64 rr, .int .i64 bf, .int .i64 jt], .int .i64 who, .int .i64 ratio] w fun e w' => e = .returned (.bool true) ∧ Below w.heap.size w w' := by
  have B : Below w.heap.size w (w.alloc (.cells #[.int .i64 p0, .int .i64 p1, .int .i64 rr, .int .i64 bf, .int .i64 jt] 33)) := balloc (Below.refl _ _) _
  have X := Rul.new w _ rfl p0 p1 rr bf jt
  replace L := L.kept B
  obtain ⟨x0, x1, x2, x3, x4, -, -, -, -, -⟩ := id X
  go_enter Tryz.func6, Tryz.ntmps6
  go_wp2_with (first
      | (go_at_call 12; refine (alive_top _ L).mono ?_; clear L x0 x1 x2 x3 x4; rintro e v0 ⟨rfl, b9⟩; replace X := X.kept b9; replace B := bthen B b9; clear b9; obtain ⟨x0, x1, x2, x3, x4, -, -, -, -, -⟩ := id X)
      | (go_at_call 14; refine (j0 _).mono ?_; clear j0 x0 x1 x2 x3 x4; rintro e v3 ⟨a, na, ca, b, nb, cb, rfl, b9⟩; replace b9 := balloc b9 (.cells #[.int .i64 k, .int .i64 m, .slice a na ca, .slice b nb cb] 37); replace B := bthen B b9; replace X := X.kept b9; clear b9; obtain ⟨x0, x1, x2, x3, x4, -, -, -, -, -⟩ := id X)
      | (go_at_call 17; refine (gr _).mono ?_; clear gr x0 x1 x2 x3 x4 X; rintro e v4 ⟨rfl, b9⟩; replace b9 := balloc b9 (.cells #[.int .i64 0, .slice none 0 0] 52); replace B := bthen B b9; clear b9; obtain ⟨g0, g1⟩ := id (Q.Gb.new v4 0 none 0 0))
      | (go_at_call 18; refine (gt _).mono ?_; clear gt g0 g1; rintro e v5 ⟨rfl, b9⟩; replace b9 := balloc b9 (.cells #[.int .i64 0, .int .i64 0] 56); replace B := bthen B b9; clear b9))
  go_ret
  exact ⟨rfl, B⟩
set_option maxHeartbeats 6400000 in
theorem men_ok (p0 p1 rr bf jt who ratio k m : Int) (n T : Nat) (es : List Q.Eg) (w : World) (L : Lw w)
    (j0 : ∀ v, Calls Tryz.prog 14 #[.agg #[.int .i64 p0, .int .i64 p1, .int .i64 rr, .int .i64 bf, .int .i64 jt], .int .i64 who, .int .i64 ratio] v fun e w' => ∃ a na ca b nb cb, e = .returned (.tuple #[.agg #[.int .i64 k, .int .i64 m, .slice a na ca, .slice b nb cb], .int .i64 0]) ∧ Below v.heap.size v w')
    (gr : ∀ v, Calls Tryz.prog 17 #[.agg #[.int .i64 p0, .int .i64 p1, .int .i64 rr, .int .i64 bf, .int .i64 jt], .int .i64 who, .int .i64 ratio] v fun e w' => ∃ h cp, e = .returned (.tuple #[.agg #[.int .i64 (n : Int), .slice (some ⟨h, 0, none⟩) T cp], .int .i64 0]) ∧ Q.GRow w' (some ⟨h, 0, none⟩) es ∧ Below v.heap.size v w')
    (gt : Hid (∀ h cp v, Q.GRow v (some ⟨h, 0, none⟩) es → Calls Tryz.prog 18 #[.agg #[.int .i64 (n : Int), .slice (some ⟨h, 0, none⟩) T cp]] v fun e w' => ∃ P Z : Int, e = .returned (.tuple #[.agg #[.int .i64 P, .int .i64 Z], .int .i64 0]) ∧ (k == 2) = decide (0 < P) ∧ Below v.heap.size v w')) :
    Calls Tryz.prog 6 #[.agg #[.int .i64 p0, .int .i64 p1, .int .i64 rr, .int .i64 bf, .int .i64 jt], .int .i64 who, .int .i64 ratio] w fun e w' => e = .returned (.bool true) ∧ Below w.heap.size w w' := by
  have B : Below w.heap.size w (w.alloc (.cells #[.int .i64 p0, .int .i64 p1, .int .i64 rr, .int .i64 bf, .int .i64 jt] 33)) := balloc (Below.refl _ _) _
  have X := Rul.new w _ rfl p0 p1 rr bf jt
  replace L := L.kept B
  obtain ⟨x0, x1, x2, x3, x4, -, -, -, -, -⟩ := id X
  go_enter Tryz.func6, Tryz.ntmps6
  go_wp2_with (first
      | (go_at_call 12; refine (alive_top _ L).mono ?_; clear L x0 x1 x2 x3 x4; rintro e v0 ⟨rfl, b9⟩; replace X := X.kept b9; replace B := bthen B b9; clear b9; obtain ⟨x0, x1, x2, x3, x4, -, -, -, -, -⟩ := id X)
      | (go_at_call 14; refine (j0 _).mono ?_; clear j0 x0 x1 x2 x3 x4; rintro e v3 ⟨a, na, ca, b, nb, cb, rfl, b9⟩; replace b9 := balloc b9 (.cells #[.int .i64 k, .int .i64 m, .slice a na ca, .slice b nb cb] 37); replace B := bthen B b9; replace X := X.kept b9; clear b9; have V : (v3.alloc (.cells #[.int .i64 k, .int .i64 m, .slice a na ca, .slice b nb cb] 37)).cell? ⟨v3.heap.size, 0, none⟩ = some (.int .i64 k) := (by rw [World.cell?_alloc_at _ _ _ _ rfl]; rfl); obtain ⟨x0, x1, x2, x3, x4, -, -, -, -, -⟩ := id X)
      | (go_at_call 17; refine (gr _).mono ?_; clear gr x0 x1 x2 x3 x4 X; rintro e v4 ⟨h, cp, rfl, hE, b9⟩; replace hE := hE.alloc (.cells #[.int .i64 (n : Int), .slice (some ⟨h, 0, none⟩) T cp] 52); replace b9 := balloc b9 (.cells #[.int .i64 (n : Int), .slice (some ⟨h, 0, none⟩) T cp] 52); replace V := (b9.cell (p := ⟨v3.heap.size, 0, none⟩) (block_lt V)).trans V; replace B := bthen B b9; clear b9; obtain ⟨g0, g1⟩ := id (Q.Gb.new v4 n (some ⟨h, 0, none⟩) T cp))
      | (go_at_call 18; refine (gt.out _ _ _ hE).mono ?_; clear gt g0 g1; rintro e v5 ⟨P, Z, rfl, hp, b9⟩; replace b9 := balloc b9 (.cells #[.int .i64 P, .int .i64 Z] 56); replace V := (b9.cell (p := ⟨v3.heap.size, 0, none⟩) (block_lt V)).trans V; have W0 : (v5.alloc (.cells #[.int .i64 P, .int .i64 Z] 56)).cell? ⟨v5.heap.size, 0, none⟩ = some (.int .i64 P) := (by rw [World.cell?_alloc_at _ _ _ _ rfl]; rfl); replace B := bthen B b9; clear b9 hE))
  go_ret
  exact ⟨rfl, B⟩
theorem topMean_good (r : Ru) (who ratio : Int) (w : World) (L : Lw w) (T : Nat) (k : Int) (hg : Rg who ratio) (ok : wrong r = 0) (hT : Dn r T) (hk : k = 2 ↔ ¬ Q.noPos (esG r T who ratio)) (m : Int)
    (j0 : ∀ v, Calls Tryz.prog 14 #[.agg #[.int .i64 r.k0, .int .i64 r.k1, .int .i64 r.r, .int .i64 r.m, .int .i64 r.j], .int .i64 who, .int .i64 ratio] v fun e w' => ∃ a na ca b nb cb, e = .returned (.tuple #[.agg #[.int .i64 k, .int .i64 m, .slice a na ca, .slice b nb cb], .int .i64 0]) ∧ Below v.heap.size v w') :
    Calls Tryz.prog 6 #[.agg #[.int .i64 r.k0, .int .i64 r.k1, .int .i64 r.r, .int .i64 r.m, .int .i64 r.j], .int .i64 who, .int .i64 ratio] w fun e w' => e = .returned (.bool true) ∧ Below w.heap.size w w' := by
  have hG := gph (who := who) ok hT hg.2
  obtain ⟨p, q, q1, qn, hx, hL⟩ := Q.lam_some hG.inn (fun e he => (hG.wgt e he).2) (esG_cyc (who := who) ok hT hg.2)
  refine men_ok _ _ _ _ _ who ratio k m (xp r T).1.length T (esG r T who ratio) w L j0 (gr_row hg ok hT rfl) (fun h cp v hE => ?_)
  have hb : -1048576 * (q : Int) ≤ p ∧ p ≤ 1048576 * (q : Int) := by
    obtain ⟨l, hl, hq, hp⟩ := hx
    obtain ⟨u, hu⟩ := hl.2
    have h1 := Q.wt_le (fun e he => (hG.wgt e he).2) hu
    have h2 := Q.wt_ge (fun e he => (hG.wgt e he).1) hu
    rw [hq, hp] at h1 h2
    exact ⟨h2, h1⟩
  refine (Q.greatest_some _ _ hG _ cp T (esG_len _ _ _ _) p q q1 qn hb hL v hE).mono ?_
  rintro e w' ⟨P, Z, he, hlo, hpq, b⟩
  refine ⟨P, Z, he, ?_, b⟩
  have q3 : k = 2 ↔ 0 < P := hk.trans ((Q.lam_sign hL).trans (Q.low_sign hlo.1 q1 hpq).symm)
  by_cases hP : 0 < P
  · rw [decide_eq_true hP]; simpa using q3.2 hP
  · rw [decide_eq_false hP]; simpa using fun h => hP (q3.1 h)
theorem topMean_all (r : Ru) (who ratio : Int) (w : World) (L : Lw w) :
    Calls Tryz.prog 6 #[.agg #[.int .i64 r.k0, .int .i64 r.k1, .int .i64 r.r, .int .i64 r.m, .int .i64 r.j], .int .i64 who, .int .i64 ratio] w fun e w' => e = .returned (.bool true) ∧ Below w.heap.size w w' := by
  rcases judge_or r who ratio with ⟨E, h⟩ | ⟨T, d, h⟩ | ⟨T, h⟩
  · refine men_bad _ _ _ _ _ who ratio 0 0 E h.ne w L (fun v => (judge_err h v).mono fun e w' ⟨he, b⟩ => ⟨none, 0, 0, none, 0, 0, he, b⟩) ?_ ?_
    · rcases h with ⟨hn, rfl⟩ | ⟨hg, ⟨hw, he⟩ | ⟨hw, hF, rfl⟩⟩
      · exact gr_range r who ratio hn
      · exact gr_wrong r E who ratio hw he hg.1 hg.2
      · exact grF r who ratio hw hF hg.1 hg.2
    · intro v
      refine Q.greatest_none 0 [] ⟨by omega, by simp, (fun e he => by cases he), (fun e he => by cases he)⟩ none 0 0 rfl ?_ v (.inl rfl)
      rintro ⟨l, hl, u, hu⟩
      cases l with
      | nil => exact hl rfl
      | cons e l => cases hu.1
  · refine topMean_good r who ratio w L T 1 h.rg h.ok h.dn ?_ (mx d (xp r T).1.length) fun v => (judge_bnd h v).mono fun e w' ⟨he, b⟩ => ⟨none, 0, 0, none, 0, 0, he, b⟩
    have hp : Q.noPos (esG r T who ratio) := Classical.byContradiction fun hp => h.not ((starve_iff (wrong_ok.1 h.ok).2 h.dn who ratio).2 hp)
    exact ⟨fun q => by omega, fun q => absurd hp q⟩
  · refine topMean_good r who ratio w L T 2 h.rg h.ok h.dn ?_ 0 fun v => (judge_stv h v).mono fun e w' ⟨a, na, ca, b, nb, cb, A, C, he, _, _, _, _, _, hb⟩ => ⟨a, na, ca, b, nb, cb, he, hb⟩
    exact ⟨fun _ => h.pos, fun _ => rfl⟩
theorem topMean_go (p0 p1 rr bf jt who ratio : Int) (w : World) (L : Lw w) :
    Calls Tryz.prog 6 #[.agg #[.int .i64 p0, .int .i64 p1, .int .i64 rr, .int .i64 bf, .int .i64 jt], .int .i64 who, .int .i64 ratio] w fun e w' => e = .returned (.bool true) ∧ Below w.heap.size w w' := topMean_all ⟨p0, p1, rr, bf, jt⟩ who ratio w L
end Go.Proofs.YtjageagnclmnjaaGreatDoor.D

end

section
namespace Go.Proofs.YtjageagnclmnjaaGreatDoor.D
open Go.ChangeShapes Go.WideShapes Go.ChangeAt Go.RowKit Go.Joins Go.Deep K
set_option maxRecDepth 100000

theorem fits {n : Int} (h : (Lit.int .i64 n).wf = true) : -9223372036854775808 ≤ n ∧ n ≤ 9223372036854775807 := by
  simpa [Lit.wf, IntKind.min, IntKind.max, IntKind.signed, IntKind.bits] using h
theorem own : ownKnob Tryz.prog.godebug = none := by kernel_rfl
theorem laidOut : laidOutB Tryz.prog = true := by kernel_rfl
theorem Tryz.cells3 : Tryz.prog.cellsOf 3 = 1 := by kernel_rfl
theorem Tryz.cells31 : Tryz.prog.cellsOf 31 = 2 := by kernel_rfl
theorem Tryz.cells33 : Tryz.prog.cellsOf 33 = 5 := by kernel_rfl
section
variable {H : Type} {enc : TypeId × Value → H} {W : World} {fuel : Nat} {x : DataW H × List MemPlace}
theorem one_int {c : Value} (h : DataW.trod enc Tryz.prog W 0 (fun _ => true) true fuel 3 [c] = some x) : ∃ n : Int, c = .int .i64 n ∧ -9223372036854775808 ≤ n ∧ n ≤ 9223372036854775807 := by
  obtain ⟨n, e, _, w⟩ := DataW.trod_int Tryz.underlying3 h
  simp at e
  exact ⟨n, e, fits w⟩
theorem list2 {α : Type} {l : List α} (h : l.length = 2) : ∃ c0 c1, l = [c0, c1] := by
  match l, h with
  | [c0, c1], _ => exact ⟨c0, c1, rfl⟩
theorem two_ints {cs : List Value} (h : DataW.trod enc Tryz.prog W 0 (fun _ => true) true fuel 31 cs = some x) : ∃ a b : Int, cs = [.int .i64 a, .int .i64 b] ∧ (-9223372036854775808 ≤ a ∧ a ≤ 9223372036854775807) ∧ -9223372036854775808 ≤ b ∧ b ≤ 9223372036854775807 := by
  obtain ⟨xs, m, _, _, hl, hn, hel⟩ := DataW.trod_array Tryz.underlying31 h
  rw [Tryz.cells31] at hl
  obtain ⟨c0, c1, rfl⟩ := list2 hl
  obtain ⟨y0, y1, rfl⟩ := list2 hn
  obtain ⟨a, rfl, wa⟩ := one_int (enc := enc) (W := W) (fuel := m) (x := y0) (c := c0) (by simpa [Tryz.cells3] using hel 0 (by omega))
  obtain ⟨b, rfl, wb⟩ := one_int (enc := enc) (W := W) (fuel := m) (x := y1) (c := c1) (by simpa [Tryz.cells3] using hel 1 (by omega))
  exact ⟨a, b, rfl, wa, wb⟩
theorem rules_ints {cs : List Value} (h : DataW.trod enc Tryz.prog W 0 (fun _ => true) true fuel 33 cs = some x) : ∃ x0 x1 x2 x3 x4 : Int, cs = [.int .i64 x0, .int .i64 x1, .int .i64 x2, .int .i64 x3, .int .i64 x4] ∧ (-9223372036854775808 ≤ x0 ∧ x0 ≤ 9223372036854775807) ∧ (-9223372036854775808 ≤ x1 ∧ x1 ≤ 9223372036854775807) ∧ (-9223372036854775808 ≤ x2 ∧ x2 ≤ 9223372036854775807) ∧ (-9223372036854775808 ≤ x3 ∧ x3 ≤ 9223372036854775807) ∧ (-9223372036854775808 ≤ x4 ∧ x4 ≤ 9223372036854775807) := by
  obtain ⟨y0, y1, y2, y3, m, _, hl, h0, h1, h2, h3⟩ := trod_struct4 Tryz.underlying33 h
  rw [Tryz.cells33] at hl
  obtain ⟨c0, c1, c2, c3, c4, rfl⟩ : ∃ c0 c1 c2 c3 c4, cs = [c0, c1, c2, c3, c4] := by
    match cs, hl with
    | [c0, c1, c2, c3, c4], _ => exact ⟨c0, c1, c2, c3, c4, rfl⟩
  obtain ⟨x0, x1, e0, w0, w1⟩ := two_ints (enc := enc) (W := W) (fuel := m) (x := y0) (cs := [c0, c1]) (by simpa [Tryz.cells31] using h0)
  obtain ⟨x2, rfl, w2⟩ := one_int (enc := enc) (W := W) (fuel := m) (x := y1) (c := c2) (by simpa [Tryz.cells3] using h1)
  obtain ⟨x3, rfl, w3⟩ := one_int (enc := enc) (W := W) (fuel := m) (x := y2) (c := c3) (by simpa [Tryz.cells3] using h2)
  obtain ⟨x4, rfl, w4⟩ := one_int (enc := enc) (W := W) (fuel := m) (x := y3) (c := c4) (by simpa [Tryz.cells3] using h3)
  simp only [List.cons.injEq, and_true] at e0
  obtain ⟨rfl, rfl⟩ := e0
  exact ⟨x0, x1, x2, x3, x4, rfl, w0, w1, w2, w3, w4⟩
end

theorem okAgg {r : Reach} {b0 : Nat} {t : TypeId} {fs : Array Field} {W : World} {v : Value} (hs : Tryz.prog.underlying t = some (.struct fs)) (hv : Value.okWide Tryz.prog W r b0 t v) : ∃ cs, v = .agg cs := by
  obtain ⟨cs, rfl, _⟩ := okWide_struct hs hv
  exact ⟨cs, rfl⟩
theorem openR {H : Type} {enc : TypeId × Value → H} {W : World} {r : Reach} {b0 : Nat} {v : Value} {d : DataW H} {p : List MemPlace}
    (hv : Value.okWide Tryz.prog W r b0 33 v) (h : DataW.Trod enc Tryz.prog W 0 (fun _ => true) true 33 v d p) : ∃ x0 x1 x2 x3 x4 : Int, v = .agg #[.int .i64 x0, .int .i64 x1, .int .i64 x2, .int .i64 x3, .int .i64 x4] ∧ (-9223372036854775808 ≤ x0 ∧ x0 ≤ 9223372036854775807) ∧ (-9223372036854775808 ≤ x1 ∧ x1 ≤ 9223372036854775807) ∧ (-9223372036854775808 ≤ x2 ∧ x2 ≤ 9223372036854775807) ∧ (-9223372036854775808 ≤ x3 ∧ x3 ≤ 9223372036854775807) ∧ (-9223372036854775808 ≤ x4 ∧ x4 ≤ 9223372036854775807) := by
  obtain ⟨⟨cs⟩, rfl⟩ := okAgg Tryz.underlying33 hv
  obtain ⟨fuel, hf⟩ := h
  obtain ⟨x0, x1, x2, x3, x4, e, w⟩ := rules_ints hf
  simp only [Value.cells] at e
  exact ⟨x0, x1, x2, x3, x4, by rw [show cs = _ from e], w⟩
end Go.Proofs.YtjageagnclmnjaaGreatDoor.D

end
