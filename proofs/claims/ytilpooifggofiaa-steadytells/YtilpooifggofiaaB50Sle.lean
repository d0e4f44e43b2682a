/- PROVED: what the document's own SOf answers. what the document's own SOf answers, in words for its callers; what its SGraph answers. the document's own SLead: the region in which it calls itself and appends, in whatever order; what it answers. CONDITIONS: none beyond each theorem's own. -/
import Derived.Test.YtilpooifggofiaaB19Sr
import Derived.Test.YtilpooifggofiaaB49DStep
import Derived.Test.YtilpooifggofiaaB15Ft
import Derived.Deep.CutRange
import Derived.Lib.Walk
import Derived.Test.YtilpooifggofiaaB46Sgr
import Derived.Test.YtilpooifggofiaaB42Gra
namespace Go.Proofs.Ytilpooifggofiaa.D
open Go.RowKit K
set_option linter.unusedVariables false

set_option maxHeartbeats 3200000 in
theorem sof_wrong (r : Ru) (e : Int) (h : wrong r = e) (he : (e != 0) = true) (w : World) :
    Calls Try.prog 7 #[.agg #[.int .i64 r.k0, .int .i64 r.k1, .int .i64 r.r, .int .i64 r.m, .int .i64 r.j]] w fun x w' => x = .returned (.tuple #[.agg #[.slice none 0 0, .slice none 0 0, .slice none 0 0, .slice none 0 0, .slice none 0 0], .int .i64 e]) ∧ Below w.heap.size w w' := by
  have hp := pstart_no r e h he
  have X := (Rul.new w _ rfl r.k0 r.k1 r.r r.m r.j).alloc (.cells #[.slice none 0 0, .slice none 0 0, .slice none 0 0, .slice none 0 0, .slice none 0 0] 30)
  have Y := Res.new (w.alloc (.cells #[.int .i64 r.k0, .int .i64 r.k1, .int .i64 r.r, .int .i64 r.m, .int .i64 r.j] 24)) (w.heap.size + 1) (by simp)
  have B : Below w.heap.size w ((w.alloc (.cells #[.int .i64 r.k0, .int .i64 r.k1, .int .i64 r.r, .int .i64 r.m, .int .i64 r.j] 24)).alloc (.cells #[.slice none 0 0, .slice none 0 0, .slice none 0 0, .slice none 0 0, .slice none 0 0] 30)) := balloc (balloc (Below.refl _ _) _) _
  obtain ⟨w0, hw0⟩ : ∃ w0, (w.alloc (.cells #[.int .i64 r.k0, .int .i64 r.k1, .int .i64 r.r, .int .i64 r.m, .int .i64 r.j] 24)).alloc (.cells #[.slice none 0 0, .slice none 0 0, .slice none 0 0, .slice none 0 0, .slice none 0 0] 30) = w0 := ⟨_, rfl⟩
  rw [hw0] at X Y B
  obtain ⟨x0, x1, x2, x3, x4, _, _, _, _, _⟩ := id X
  clear h
  go_enter Try.func7, Try.ntmps7
  go_wp2_with (go_at_call 19; refine (hp _).mono ?_; rintro e w1 ⟨rfl, b⟩; clear hp; replace Y := Y.kept b; replace B := bthen B b; replace Y := Y.kept (balloc (Below.refl _ _) (.cells #[.int .i64 0, .int .i64 0, .int .i64 0, .int .i64 0, .int .i64 0, .int .i64 0, .int .i64 0, .int .i64 0, .int .i64 0, .int .i64 0, .int .i64 0, .int .i64 0, .int .i64 0, .int .i64 0] 48)); replace B := balloc B (.cells #[.int .i64 0, .int .i64 0, .int .i64 0, .int .i64 0, .int .i64 0, .int .i64 0, .int .i64 0, .int .i64 0, .int .i64 0, .int .i64 0, .int .i64 0, .int .i64 0, .int .i64 0, .int .i64 0] 48); obtain ⟨y0, g0⟩ := Y.c 0 (by omega); obtain ⟨y1, g1⟩ := Y.c 1 (by omega); obtain ⟨y2, g2⟩ := Y.c 2 (by omega); obtain ⟨y3, g3⟩ := Y.c 3 (by omega); obtain ⟨y4, g4⟩ := Y.c 4 (by omega))
  have Z := Y.fiv.all (fun _ => .slice none 0 0)
  obtain ⟨z0, _⟩ := Z.c 0 (by omega)
  obtain ⟨z1, _⟩ := Z.c 1 (by omega)
  obtain ⟨z2, _⟩ := Z.c 2 (by omega)
  obtain ⟨z3, _⟩ := Z.c 3 (by omega)
  obtain ⟨z4, _⟩ := Z.c 4 (by omega)
  simp only [put5] at z0 z1 z2 z3 z4
  refine bodyPost_ret (v := .tuple #[.agg #[.slice none 0 0, .slice none 0 0, .slice none 0 0, .slice none 0 0, .slice none 0 0], .int .i64 e]) (by simp [results, Try.results7, go_sem, z0, z1, z2, z3, z4]) rfl ⟨rfl, below_put5 (C := w.heap.size + 1) B (by omega) (fun _ => .slice none 0 0)⟩


/-- how it begins -/
theorem So.start (r : Ru) (w w1 : World) (h0 : Rul w1 w.heap.size r.k0 r.k1 r.r r.m r.j) (h1 : Res w1 (w.heap.size + 1)) (hB : Below w.heap.size w w1) (S : Nat) :
    So w r (w1.heap.size + 1) (kk w (w1.heap.size + 1)) (up (fun _ => .slice none 0 0) 0 (.slice (some ⟨w1.heap.size, 0, none⟩) 1 1)) (fn r 0) (fx r 0) ((w1.alloc (.cells #[.int .i64 r.k0, .int .i64 1, .int .i64 (-1), .int .i64 0, .int .i64 0, .int .i64 0, .int .i64 r.k1, .int .i64 1, .int .i64 (-1), .int .i64 0, .int .i64 0, .int .i64 0, .int .i64 0, .int .i64 0] 48)).alloc (.cells #[.slice (some ⟨w1.heap.size, 0, none⟩) 1 1, .slice none 0 0, .slice none 0 0, .slice none 0 0, .slice none 0 0] 30)) := by
  have b1 : Below w1.heap.size w1 (w1.alloc (.cells #[.int .i64 r.k0, .int .i64 1, .int .i64 (-1), .int .i64 0, .int .i64 0, .int .i64 0, .int .i64 r.k1, .int .i64 1, .int .i64 (-1), .int .i64 0, .int .i64 0, .int .i64 0, .int .i64 0, .int .i64 0] 48)) := balloc (Below.refl _ _) _
  have b2 := balloc b1 (.cells #[.slice (some ⟨w1.heap.size, 0, none⟩) 1 1, .slice none 0 0, .slice none 0 0, .slice none 0 0, .slice none 0 0] 30)
  have s1 : (w1.alloc (.cells #[.int .i64 r.k0, .int .i64 1, .int .i64 (-1), .int .i64 0, .int .i64 0, .int .i64 0, .int .i64 r.k1, .int .i64 1, .int .i64 (-1), .int .i64 0, .int .i64 0, .int .i64 0, .int .i64 0, .int .i64 0] 48)).heap.size = w1.heap.size + 1 := by simp
  have l1 : w.heap.size + 1 < w1.heap.size := block_lt (h1.c 0 (by omega)).1
  refine ⟨h0.kept b2, h1.kept b2, ⟨fun c hc => ?_⟩, ⟨fun c hc => ?_, fun c d hc hd hne g hg => ?_, fun g hg => ⟨?_, fun c hc => ?_⟩, by have := hB.size; simp; omega⟩, fun g hg => hg, by omega, bthen hB b2⟩
  · rw [World.cell?_alloc_at _ _ _ _ (by exact s1.symm), World.frozen?_alloc_at _ _ _ _ (by exact s1.symm)]
    rcases (show c = 0 ∨ c = 1 ∨ c = 2 ∨ c = 3 ∨ c = 4 by omega) with rfl | rfl | rfl | rfl | rfl <;> exact ⟨rfl, rfl⟩
  · by_cases e : c = 0
    · subst e
      rw [up_at]
      have := World.ownsRow_lit (base := w.heap.size) (e := 48) (size := 14) w1 #[.int .i64 r.k0, .int .i64 1, .int .i64 (-1), .int .i64 0, .int .i64 0, .int .i64 0, .int .i64 r.k1, .int .i64 1, .int .i64 (-1), .int .i64 0, .int .i64 0, .int .i64 0, .int .i64 0, .int .i64 0] 1 (by have := hB.size; omega) (by unfold maxLen; omega) rfl
      exact own_same this fun g hg => by
        have e : g = w1.heap.size := by simpa [Value.ownBlock] using hg.symm
        subst e
        exact (balloc (Below.refl (w1.alloc (.cells #[.int .i64 r.k0, .int .i64 1, .int .i64 (-1), .int .i64 0, .int .i64 0, .int .i64 0, .int .i64 r.k1, .int .i64 1, .int .i64 (-1), .int .i64 0, .int .i64 0, .int .i64 0, .int .i64 0, .int .i64 0] 48)).heap.size (w1.alloc (.cells #[.int .i64 r.k0, .int .i64 1, .int .i64 (-1), .int .i64 0, .int .i64 0, .int .i64 0, .int .i64 r.k1, .int .i64 1, .int .i64 (-1), .int .i64 0, .int .i64 0, .int .i64 0, .int .i64 0, .int .i64 0] 48))) _).block _ (by simp)
    · rw [up_ne _ _ _ e]
      have h2 : fn r 0 c = 0 := by
        rcases (show c = 1 ∨ c = 2 ∨ c = 3 ∨ c = 4 by omega) with rfl | rfl | rfl | rfl <;> rfl
      have h3 : fx r 0 c = [] := by
        obtain ⟨_, q1, q2, q3, q4⟩ := fx_zero r
        rcases (show c = 1 ∨ c = 2 ∨ c = 3 ∨ c = 4 by omega) with rfl | rfl | rfl | rfl <;> assumption
      rw [h2, h3]; exact World.ownsRow_nil _ _ _ _
  · by_cases e : c = 0
    · rw [up_ne _ _ _ (by omega)]; simp [Value.ownBlock]
    · rw [up_ne _ _ _ e] at hg; simp [Value.ownBlock] at hg
  · unfold kk at hg; simp; omega
  · by_cases e : c = 0
    · subst e; rw [up_at]
      unfold kk at hg
      simp [Value.ownBlock]; omega
    · rw [up_ne _ _ _ e]; simp [Value.ownBlock]

set_option maxRecDepth 100000 in
set_option maxHeartbeats 12800000 in
theorem sof_any (r : Ru) (h : wrong r = 0) (w : World) :
    Calls Try.prog 7 #[.agg #[.int .i64 r.k0, .int .i64 r.k1, .int .i64 r.r, .int .i64 r.m, .int .i64 r.j]] w fun x w' => ((∃ T v, Dn r T ∧ x = .returned (.tuple #[.agg #[v 0, v 1, v 2, v 3, v 4], .int .i64 0]) ∧ Fam w.heap.size (fun _ => False) v (fn r T) (fx r T) w') ∨ (Fl r ∧ x = .returned (.tuple #[.agg #[.slice none 0 0, .slice none 0 0, .slice none 0 0, .slice none 0 0, .slice none 0 0], .int .i64 4]))) ∧ Below w.heap.size w w' := by
  have hp := pstart_yes r h
  have hkr := wrong_ok.1 h
  have hrg := hkr.2
  obtain ⟨hjc, hj4, he16⟩ := jj_cast hrg
  have hjr := hrg.2.2
  have X := (Rul.new w _ rfl r.k0 r.k1 r.r r.m r.j).alloc (.cells #[.slice none 0 0, .slice none 0 0, .slice none 0 0, .slice none 0 0, .slice none 0 0] 30)
  have Y := Res.new (w.alloc (.cells #[.int .i64 r.k0, .int .i64 r.k1, .int .i64 r.r, .int .i64 r.m, .int .i64 r.j] 24)) (w.heap.size + 1) (by simp)
  have B : Below w.heap.size w ((w.alloc (.cells #[.int .i64 r.k0, .int .i64 r.k1, .int .i64 r.r, .int .i64 r.m, .int .i64 r.j] 24)).alloc (.cells #[.slice none 0 0, .slice none 0 0, .slice none 0 0, .slice none 0 0, .slice none 0 0] 30)) := balloc (balloc (Below.refl _ _) _) _
  obtain ⟨w0, hw0⟩ : ∃ w0, (w.alloc (.cells #[.int .i64 r.k0, .int .i64 r.k1, .int .i64 r.r, .int .i64 r.m, .int .i64 r.j] 24)).alloc (.cells #[.slice none 0 0, .slice none 0 0, .slice none 0 0, .slice none 0 0, .slice none 0 0] 30) = w0 := ⟨_, rfl⟩
  rw [hw0] at X Y B
  obtain ⟨x0, x1, x2, x3, x4, _, _, _, _, _⟩ := id X
  have hkk : Hid (kinds r ∧ ranges r) := hkr
  replace hjc : Hid _ := hjc
  clear h hkr
  go_enter Try.func7, Try.ntmps7
  go_wp2_with (go_at_call 19; refine (hp _).mono ?_; rintro e w1 ⟨rfl, b⟩; clear hp x0 x1 x2 x3 x4; replace X := (X.kept b).alloc (.cells #[.int .i64 r.k0, .int .i64 1, .int .i64 (-1), .int .i64 0, .int .i64 0, .int .i64 0, .int .i64 r.k1, .int .i64 1, .int .i64 (-1), .int .i64 0, .int .i64 0, .int .i64 0, .int .i64 0, .int .i64 0] 48); replace Y := Y.kept (balloc b (.cells #[.int .i64 r.k0, .int .i64 1, .int .i64 (-1), .int .i64 0, .int .i64 0, .int .i64 0, .int .i64 r.k1, .int .i64 1, .int .i64 (-1), .int .i64 0, .int .i64 0, .int .i64 0, .int .i64 0, .int .i64 0] 48)); replace B := balloc (bthen B b) (.cells #[.int .i64 r.k0, .int .i64 1, .int .i64 (-1), .int .i64 0, .int .i64 0, .int .i64 0, .int .i64 r.k1, .int .i64 1, .int .i64 (-1), .int .i64 0, .int .i64 0, .int .i64 0, .int .i64 0, .int .i64 0] 48); have St := Sta.new w1 w1.heap.size rfl r.k0 1 (-1) 0 0 0 r.k1 1 (-1) 0 0 0 0 0; obtain ⟨q0, q1, q2, q3, q4, q5, q6, q7, q8, q9, q10, q11, q12, q13, _⟩ := id St)
  have hst := So.start r w (w1.alloc (.cells #[.int .i64 r.k0, .int .i64 1, .int .i64 (-1), .int .i64 0, .int .i64 0, .int .i64 0, .int .i64 r.k1, .int .i64 1, .int .i64 (-1), .int .i64 0, .int .i64 0, .int .i64 0, .int .i64 0, .int .i64 0] 48)) X Y B 0
  rw [show (w1.alloc (.cells #[.int .i64 r.k0, .int .i64 1, .int .i64 (-1), .int .i64 0, .int .i64 0, .int .i64 0, .int .i64 r.k1, .int .i64 1, .int .i64 (-1), .int .i64 0, .int .i64 0, .int .i64 0, .int .i64 0, .int .i64 0] 48)).heap.size = w1.heap.size + 1 by simp] at hst
  clear q0 q1 q2 q3 q4 q5 q6 q7 q8 q9 q10 q11 q12 q13 St X Y B
  obtain ⟨C, hC⟩ : ∃ C, w1.heap.size + 1 + 1 = C := ⟨_, rfl⟩
  rw [hC] at hst ⊢
  generalize ((w1.alloc (.cells #[.int .i64 r.k0, .int .i64 1, .int .i64 (-1), .int .i64 0, .int .i64 0, .int .i64 0, .int .i64 r.k1, .int .i64 1, .int .i64 (-1), .int .i64 0, .int .i64 0, .int .i64 0, .int .i64 0, .int .i64 0] 48)).alloc (.cells #[.int .i64 r.k0, .int .i64 1, .int .i64 (-1), .int .i64 0, .int .i64 0, .int .i64 0, .int .i64 r.k1, .int .i64 1, .int .i64 (-1), .int .i64 0, .int .i64 0, .int .i64 0, .int .i64 0, .int .i64 0] 48)).alloc (.cells #[.slice (some ⟨w1.heap.size + 1, 0, none⟩) 1 1, .slice none 0 0, .slice none 0 0, .slice none 0 0, .slice none 0 0] 30) = W0 at hst ⊢
  clear hC
  go_loopw [7] (fun i wr => ∃ (k : Nat) (v : Nat → Value), i = .int .i64 k ∧ k ≤ (xp r (k * ee r)).1.length ∧ (xp r (k * ee r)).1.length ≤ 300 ∧ Live (sp r) (ee r) (K.start r) (k * ee r) ∧ So w r C (kk w C) v (fn r (k * ee r)) (fx r (k * ee r)) wr) (fun i _ => 301 - (intOf i).toNat)
  case atStart => exact ⟨0, _, rfl, Nat.zero_le _, by rw [Nat.zero_mul]; show 1 ≤ 300; omega, by rw [Nat.zero_mul]; exact fun t ht => by omega, by rw [Nat.zero_mul]; exact hst⟩
  case round =>
    obtain ⟨k, v, rfl, hkl, hk3, hLv, hS⟩ := hrel
    clear hst
    obtain ⟨g0, cp0, hv0, hcp0⟩ : ∃ g cap, v 0 = .slice (some ⟨g, 0, none⟩) (xp r (k * ee r)).1.length cap ∧ (xp r (k * ee r)).1.length ≤ cap := by
      have hf := ex_first hLv
      obtain ⟨g, cap, e, hc, _, _⟩ := own_state (hS.fam.own 0 (by omega)) (k := 0) hf
      exact ⟨g, cap, e, hc⟩
    obtain ⟨p0, pf0⟩ := hS.fiv.c 0 (by omega)
    rw [hv0] at p0
    by_cases hlt : k < (xp r (k * ee r)).1.length
    · have hkI : (k : Int) < ((xp r (k * ee r)).1.length : Int) := by omega
      obtain ⟨_, _, _, _, x4, _⟩ := id hS.rul
      obtain ⟨q, hq⟩ : ∃ q, jj r = q := ⟨_, rfl⟩
      obtain ⟨E, hE⟩ : ∃ E, ee r = E := ⟨_, rfl⟩
      have hjq : r.j + 1 = (q : Int) := by rw [← hq]; exact hjc.out.symm
      have hqE : (q : Int) * (q : Int) = (E : Int) := by rw [← hE, ← hq]; unfold ee; rw [Int.natCast_mul]
      have hE16 : E ≤ 16 := by rw [← hE]; exact he16
      have hq4 : q ≤ 4 := by rw [← hq]; exact hj4
      have hst : ∃ (nn : Nat) (v : Nat → Value), nn ≤ E ∧ (0 : Int) = nn ∧ (xp r (k * E + nn)).1.length ≤ 300 ∧ Live (sp r) E (K.start r) (k * E + nn) ∧ k < (xp r (k * E + nn)).1.length ∧ So w r C (kk w C) v (fn r (k * E + nn)) (fx r (k * E + nn)) wr := ⟨0, v, Nat.zero_le _, rfl, by rw [Nat.add_zero, ← hE]; exact hk3, by rw [Nat.add_zero, ← hE]; exact hLv, by rw [Nat.add_zero, ← hE]; exact hlt, by rw [Nat.add_zero, ← hE]; exact hS⟩
      replace hq : Hid _ := hq
      replace hE : Hid _ := hE
      replace hst : Hid _ := hst
      clear hLv hS hlt hcp0 he16 hj4
      generalize (xp r (k * ee r)).1.length = len at *
      go_wp2
      clear x4 p0 pf0 hv0
      go_loopw [42] (fun i wr => ∃ (nn : Nat) (v : Nat → Value), nn ≤ E ∧ i = .int .i64 nn ∧ (xp r (k * E + nn)).1.length ≤ 300 ∧ Live (sp r) E (K.start r) (k * E + nn) ∧ k < (xp r (k * E + nn)).1.length ∧ So w r C (kk w C) v (fn r (k * E + nn)) (fx r (k * E + nn)) wr) (fun i _ => E - (intOf i).toNat)
      case atStart =>
        obtain ⟨nn, v, a1, a2, a3⟩ := hst.out
        exact ⟨nn, v, a1, by rw [← a2], a3⟩
      case round =>
        obtain ⟨nn, v, hnE, rfl, hl3, hL, hk, hS⟩ := hrel
        clear hst
        by_cases hn : nn < E
        · have hnI : (nn : Int) < (E : Int) := by omega
          obtain ⟨x, hx⟩ : ∃ x, (xp r (k * E + nn)).1[k]? = some x := ⟨_, List.getElem?_eq_getElem hk⟩
          obtain ⟨t, ht⟩ : ∃ t, k * E + nn = t := ⟨_, rfl⟩
          have htE : t / ee r = k ∧ t % ee r = nn := by
            rw [hE.out, ← ht, Nat.mul_comm]
            exact ⟨by rw [Nat.mul_add_div (by omega), Nat.div_eq_of_lt hn]; omega, by rw [Nat.mul_add_mod, Nat.mod_eq_of_lt hn]⟩
          rw [ht] at hl3 hL hk hS hx
          obtain ⟨lx, hlx⟩ : ∃ lx, nn / q = lx := ⟨_, rfl⟩
          obtain ⟨ly, hly⟩ : ∃ ly, nn % q = ly := ⟨_, rfl⟩
          have q1 : 1 ≤ q := by rw [← hq.out]; exact jj_pos r
          have hd1 : (nn : Int).tdiv (q : Int) = (lx : Int) := by rw [Int.tdiv_eq_ediv_of_nonneg (by omega), ← hlx]; omega
          have hd2 : (nn : Int).tmod (q : Int) = (ly : Int) := by rw [Int.tmod_eq_emod_of_nonneg (by omega), ← hly]; omega
          have hd3 : (nn : Int) / (q : Int) = (lx : Int) := by rw [← hlx]; omega
          have hd4 : (nn : Int) % (q : Int) = (ly : Int) := by rw [← hly]; omega
          have hw1 : IntKind.i64.wrap (q : Int) = (q : Int) := wrapIn (by omega)
          have hq0 : ((q : Int) == 0) = false := beq_eq_false_iff_ne.2 (by omega)
          have hq1 : ¬ (q : Int) = 0 := by omega
          have hq2 : ¬ q = 0 := by omega
          have hsx : pright r x := xp_right hkk.out t x (List.mem_of_getElem? hx)
          have hlat : lates r (lx : Int) (ly : Int) := by
            have := sp_lates hkk.out.2 (n := nn) (by rw [hE.out]; exact hn)
            rw [hq.out, hlx, hly] at this; exact this
          obtain ⟨y, hy⟩ : ∃ y, K.step r x (lx : Int) (ly : Int) = y := ⟨_, rfl⟩
          have hsp : sp r x nn = y := by unfold sp; rw [hq.out, hlx, hly, hy]
          obtain ⟨rd, hrd⟩ : ∃ rd, K.round r x = rd := ⟨_, rfl⟩
          have h20 := pstep_yes r x (lx : Int) (ly : Int) hsx hlat
          rw [hy, hrd] at h20
          have lx3 : lx ≤ 16 := by rw [← hlx]; exact Nat.le_trans (Nat.div_le_self _ _) (by omega)
          have ly3 : ly ≤ 16 := by rw [← hly]; exact Nat.le_trans (Nat.mod_le _ _) (by omega)
          obtain ⟨_, _, _, _, x4, _⟩ := id hS.rul
          have S2 : So w r C (fun g => kk w C g ∨ g = wr.heap.size) v (fn r t) (fx r t) (wr.alloc (.cells #[.int .i64 (lx : Int), .int .i64 (ly : Int)] 22)).drew := (hS.alloc (.cells #[.int .i64 (lx : Int), .int .i64 (ly : Int)] 22)).kept (Below.drew (Below.refl _ _))
          have p0 : (wr.alloc (.cells #[.int .i64 (lx : Int), .int .i64 (ly : Int)] 22)).drew.cell? ⟨wr.heap.size, 0, none⟩ = some (.int .i64 (lx : Int)) := by show (wr.alloc _).cell? _ = _; rw [World.cell?_alloc_at _ _ _ _ rfl]; rfl
          have p1 : (wr.alloc (.cells #[.int .i64 (lx : Int), .int .i64 (ly : Int)] 22)).drew.cell? ⟨wr.heap.size, 1, none⟩ = some (.int .i64 (ly : Int)) := by show (wr.alloc _).cell? _ = _; rw [World.cell?_alloc_at _ _ _ _ rfl]; rfl
          have hLt : wr.heap.size < (wr.alloc (.cells #[.int .i64 (lx : Int), .int .i64 (ly : Int)] 22)).drew.heap.size := by show wr.heap.size < (wr.alloc _).heap.size; simp
          have hCw : C < wr.heap.size := (hS.fam.kb C (.inr (.inr rfl))).1
          obtain ⟨g0, cp0, hv0, hcp0, hln, hsat⟩ := own_state (S2.fam.own 0 (by omega)) (k := k) hx
          have hw2 : IntKind.i64.wrap (lx : Int) = (lx : Int) := wrapIn (by omega)
          have hw3 : IntKind.i64.wrap (ly : Int) = (ly : Int) := wrapIn (by omega)
          have hw4 : IntKind.i64.wrap (r.j + 1) = (q : Int) := by rw [hjq]; exact hw1
          replace ht : Hid _ := ht
          replace hlx : Hid _ := hlx
          replace hly : Hid _ := hly
          replace htE : Hid _ := htE
          replace hrd : Hid _ := hrd
          replace hsp : Hid _ := hsp
          replace hy : Hid _ := hy
          clear hS
          go_wp2
          first | (go_region_held3 (fun w' => w'.cell? ⟨w.heap.size, 4, none⟩ = some (.int .i64 r.j)) (first | exact x4 | simp [*, World.cell?_alloc_some]) (fail)) | fail
          obtain ⟨W2, hW2⟩ : ∃ W2, (wr.alloc (.cells #[.int .i64 (lx : Int), .int .i64 (ly : Int)] 22)).drew = W2 := ⟨_, rfl⟩
          obtain ⟨Lt, hLte⟩ : ∃ Lt, wr.heap.size = Lt := ⟨_, rfl⟩
          rw [hLte] at S2 p0 p1 hLt hCw ⊢
          rw [hW2] at S2 p0 p1 hLt hsat ⊢
          clear hW2 hLte x4
          have hc0 := (S2.fiv.c 0 (by omega)).1
          rw [hv0] at hc0
          have hkI2 : (k : Int) < ((fn r t 0 : Nat) : Int) := by show (k : Int) < (((xp r t).1.length : Nat) : Int); omega
          go_wp2
          refine region12 (by rfl) (by kernel_rfl) (by kernel_rfl) (by kernel_rfl) (k := k) (by simp) (by rfl) (by rfl) (by rfl) (by rfl) S2.rul hc0 hkI2 hsat p0 p1 h20 ?_
          intro ys Nx Rd W3 b3 hNx hRd hNR sN sR y10 y11
          simp only [tA, l12, sets]
          simp only [List.setIfInBounds_toArray, List.set_cons_succ, List.set_cons_zero, y10, y11]
          generalize ys 56 = u56
          generalize ys 57 = u57
          generalize ys 58 = u58
          generalize ys 59 = u59
          generalize ys 60 = u60
          generalize ys 61 = u61
          generalize ys 62 = u62
          generalize ys 63 = u63
          generalize ys 64 = u64
          generalize ys 65 = u65
          generalize ys 66 = u66
          generalize ys 67 = u67
          generalize ys 12 = u12
          have S3 := S2.add b3 hRd (block_lt sR.c0)
          replace S2 := S2.kept b3
          replace hsat := hsat.kept b3
          have p0' : W3.cell? ⟨Lt, 0, none⟩ = some (.int .i64 (lx : Int)) := (b3.cell (p := ⟨Lt, 0, none⟩) hLt).trans p0
          have p1' : W3.cell? ⟨Lt, 1, none⟩ = some (.int .i64 (ly : Int)) := (b3.cell (p := ⟨Lt, 1, none⟩) hLt).trans p1
          clear p0 p1 hsat hsx hlat hd1 hd2 hd3 hd4 hw1 hw2 hw3 hw4 hq0 hq1 hq2 h20 y10 y11
          obtain ⟨len, hlen⟩ : ∃ len, (xp r t).1.length = len := ⟨_, rfl⟩
          have hc2 := (S2.fiv.c 0 (by omega)).1
          have hv0' : v 0 = .slice (some ⟨g0, 0, none⟩) len cp0 := by rw [hv0, ← hlen]; rfl
          rw [hv0'] at hc2
          have hll : len ≤ 300 := by rw [← hlen]; exact hl3
          have hcp1 : len ≤ cp0 := by rw [← hlen]; exact hcp0
          have hsts : Hid (∀ i, i < len → ∃ s, (xp r t).1[i]? = some s ∧ Sat W3 g0 (i * 14) s) := fun i hi => by
            obtain ⟨s, hs⟩ : ∃ s, (xp r t).1[i]? = some s := ⟨_, List.getElem?_eq_getElem (by omega)⟩
            obtain ⟨g', cp', e', _, _, hsat'⟩ := own_state (S2.fam.own 0 (by omega)) (k := i) hs
            rw [hv0'] at e'
            injection e' with e'
            injection e' with e'
            injection e' with e'
            subst e'
            exact ⟨s, hs, hsat'⟩
          have hNx3 : Nx < W3.heap.size := block_lt sN.c0
          replace hlen : Hid _ := hlen
          clear hc0 hkI2 hcp0 hln hv0
          go_wp2
          clear hc2
          go_loopw [13, 71] (fun tv iv wr => ∃ (i : Nat) (tz : Int), i ≤ len ∧ iv = .int .i64 i ∧ tv = .int .i64 tz ∧ ((tz = -1 ∧ ∀ j, j < i → (xp r t).1[j]? ≠ some y) ∨ ∃ j : Nat, j < i ∧ tz = (j : Int) ∧ (xp r t).1[j]? = some y) ∧ Below W3.heap.size W3 wr) (fun _ iv _ => len - (intOf iv).toNat)
          case atStart => exact ⟨0, -1, Nat.zero_le _, rfl, rfl, .inl ⟨rfl, fun j h => by omega⟩, Below.refl _ _⟩
          case round =>
            obtain ⟨i, tz, hil, rfl, rfl, htz, b4⟩ := hrel
            by_cases hi : i < len
            · obtain ⟨s, hs, hsat⟩ := hsts.out i hi
              replace hsat := hsat.kept b4
              have sN4 := sN.kept b4
              have hiI : (i : Int) < (len : Int) := by omega
              have heq := eqX s y
              obtain ⟨c0, c1, c2, c3, c4, c5, c6, c7, c8, c9, c10, c11, c12, c13⟩ := id hsat
              have sE := Sta.new wr wr.heap.size rfl (s.f0.k) (s.f0.n) (s.f0.b) (s.f0.a) (s.f0.s) (s.f0.q) (s.f1.k) (s.f1.n) (s.f1.b) (s.f1.a) (s.f1.s) (s.f1.q) (s.w0) (s.w1)
              have sN5 := sN4.alloc (.cells #[.int .i64 s.f0.k, .int .i64 s.f0.n, .int .i64 s.f0.b, .int .i64 s.f0.a, .int .i64 s.f0.s, .int .i64 s.f0.q, .int .i64 s.f1.k, .int .i64 s.f1.n, .int .i64 s.f1.b, .int .i64 s.f1.a, .int .i64 s.f1.s, .int .i64 s.f1.q, .int .i64 s.w0, .int .i64 s.w1] 48)
              have b5 := balloc b4 (.cells #[.int .i64 s.f0.k, .int .i64 s.f0.n, .int .i64 s.f0.b, .int .i64 s.f0.a, .int .i64 s.f0.s, .int .i64 s.f0.q, .int .i64 s.f1.k, .int .i64 s.f1.n, .int .i64 s.f1.b, .int .i64 s.f1.a, .int .i64 s.f1.s, .int .i64 s.f1.q, .int .i64 s.w0, .int .i64 s.w1] 48)
              obtain ⟨W5, hW5⟩ : ∃ W5, wr.alloc (.cells #[.int .i64 s.f0.k, .int .i64 s.f0.n, .int .i64 s.f0.b, .int .i64 s.f0.a, .int .i64 s.f0.s, .int .i64 s.f0.q, .int .i64 s.f1.k, .int .i64 s.f1.n, .int .i64 s.f1.b, .int .i64 s.f1.a, .int .i64 s.f1.s, .int .i64 s.f1.q, .int .i64 s.w0, .int .i64 s.w1] 48) = W5 := ⟨_, rfl⟩
              obtain ⟨E5, hE5⟩ : ∃ E5, wr.heap.size = E5 := ⟨_, rfl⟩
              rw [hW5] at sE sN5 b5
              rw [hE5] at sE
              obtain ⟨e0, e1, e2, e3, e4, e5, e6, e7, e8, e9, e10, e11, e12, e13, _⟩ := id sE
              obtain ⟨d0, d1, d2, d3, d4, d5, d6, d7, d8, d9, d10, d11, d12, d13, _⟩ := id sN5
              have htz2 : Hid (((tz = -1 ∧ ∀ j, j < i → (xp r t).1[j]? ≠ some y) ∨ ∃ j : Nat, j < i ∧ tz = (j : Int) ∧ (xp r t).1[j]? = some y)) := htz
              clear htz b4 sN4 hsat
              by_cases hsy : s = y
              · have hdy : decide (s = y) = true := decide_eq_true hsy
                rw [hdy] at heq
                have hnew : (xp r t).1[i]? = some y := by rw [← hsy]; exact hs
                replace hnew : Hid _ := hnew
                clear hs hdy hsy
                go_wp2
                go_roundw
                case rel => exact ⟨i + 1, (i : Int), by omega, by go_num, rfl, .inr ⟨i, by omega, rfl, hnew.out⟩, b5⟩
                case measure => simp [intOf]; omega
              · have hdy : decide (s = y) = false := decide_eq_false hsy
                rw [hdy] at heq
                have hnew : (xp r t).1[i]? ≠ some y := by rw [hs]; intro q; injection q with q; exact hsy q
                replace hnew : Hid _ := hnew
                clear hs hdy hsy
                go_wp2
                go_roundw
                case rel =>
                  refine ⟨i + 1, tz, by omega, by go_num, rfl, ?_, b5⟩
                  rcases htz2.out with ⟨q1, q2⟩ | ⟨j, q1, q2, q3⟩
                  · refine .inl ⟨q1, fun j hj => ?_⟩
                    rcases Nat.lt_succ_iff_lt_or_eq.1 hj with hj | rfl
                    · exact q2 j hj
                    · exact hnew.out
                  · exact .inr ⟨j, by omega, q2, q3⟩
                case measure => simp [intOf]; omega
            · obtain rfl : len = i := by omega
              replace S3 := S3.kept b4
              replace sN := sN.kept b4
              replace sR := sR.kept b4
              replace p0' : wr.cell? ⟨Lt, 0, none⟩ = some (.int .i64 (lx : Int)) := (b4.cell (p := ⟨Lt, 0, none⟩) (block_lt p0')).trans p0'
              replace p1' : wr.cell? ⟨Lt, 1, none⟩ = some (.int .i64 (ly : Int)) := (b4.cell (p := ⟨Lt, 1, none⟩) (block_lt p1')).trans p1'
              have hLt3 : Lt < wr.heap.size := block_lt p0'
              have hRd3 : Rd < wr.heap.size := block_lt sR.c0
              have hNxw : Nx < wr.heap.size := block_lt sN.c0
              clear hsts b4 hNx3
              have hnd : (xp r t).1.Nodup := by
                have := ex_nodup (step := sp r) (E := E) (s0 := K.start r) hL
                rw [← hE.out] at this; exact this
              have hxe : (xp r t).1[t / ee r]? = some x := by rw [htE.out.1]; exact hx
              obtain ⟨fx0, fx1, fx2, fx3, fx4⟩ := fx_succ hxe
              rw [htE.out.2, hsp.out] at fx0 fx2
              rw [htE.out.1] at fx1
              rw [htE.out.2, hq.out, hlx.out, hly.out] at fx3
              rw [hrd.out] at fx4
              have hLC : Lt ≠ C := by omega
              have hRC : Rd ≠ C := by omega
              have hLv1 : Live (sp r) E (K.start r) (t + 1) := fun t' ht' => by
                rcases Nat.lt_succ_iff_lt_or_eq.1 ht' with q | rfl
                · exact hL t' q
                · have hkl3 : k + 1 ≤ (xp r t').1.length := hk
                  have := Nat.mul_le_mul_left E hkl3
                  rw [Nat.mul_add, Nat.mul_one, Nat.mul_comm E k] at this
                  have e := ht.out
                  have e2 : ex (sp r) E (K.start r) t' = xp r t' := by rw [← hE.out]; rfl
                  rw [e2]
                  omega
              have ht1 : k * E + (nn + 1) = t + 1 := by have := ht.out; omega
              have hEx : Live (sp r) E (K.start r) t := hL
              rcases htz with ⟨rfl, hnone⟩ | ⟨j, hj, rfl, hjy⟩
              · have hnm : y ∉ (xp r t).1 := fun q => by
                  obtain ⟨j, hj, e⟩ := List.getElem_of_mem q
                  exact hnone j (by rw [← hlen.out]; exact hj) (by rw [List.getElem?_eq_getElem hj, e])
                have hix : ix (xp r t).1 y = len := by rw [ix_not hnm]; exact hlen.out
                rw [hix] at fx2
                have hnx : (xp r (t + 1)).1 = (xp r t).1 ++ [y] := by rw [fx0]; unfold Ytilpooifggofiaa.nx; rw [if_neg hnm]
                have hc3 := (S3.fiv.c 0 (by omega)).1
                rw [hv0'] at hc3
                by_cases h300 : len = 300
                · have d3 : ((len : Int) == 300) = true := beq_iff_eq.2 (by omega)
                  have hfl : Hid (Fl r) := ⟨t, x, by rw [hE.out]; exact hEx, hxe, by rw [hlen.out]; exact h300, by rw [htE.out.2, hsp.out]; exact hnm⟩
                  have Y := S3.res
                  have Z := Y.fiv.all (fun _ => .slice none 0 0)
                  obtain ⟨y0, g0'⟩ := Y.c 0 (by omega)
                  obtain ⟨y1, g1⟩ := Y.c 1 (by omega)
                  obtain ⟨y2, g2⟩ := Y.c 2 (by omega)
                  obtain ⟨y3, g3⟩ := Y.c 3 (by omega)
                  obtain ⟨y4, g4⟩ := Y.c 4 (by omega)
                  have B6 := S3.below
                  clear fx0 fx1 fx2 fx3 fx4 ht1 hnx hEx hxe hnm hnone hL hx hix S3 hnd hLv1
                  go_wp2
                  obtain ⟨z0, _⟩ := Z.c 0 (by omega)
                  obtain ⟨z1, _⟩ := Z.c 1 (by omega)
                  obtain ⟨z2, _⟩ := Z.c 2 (by omega)
                  obtain ⟨z3, _⟩ := Z.c 3 (by omega)
                  obtain ⟨z4, _⟩ := Z.c 4 (by omega)
                  simp only [put5] at z0 z1 z2 z3 z4
                  refine bodyPost_ret (v := .tuple #[.agg #[.slice none 0 0, .slice none 0 0, .slice none 0 0, .slice none 0 0, .slice none 0 0], .int .i64 4]) (by simp [results, Try.results7, go_sem, z0, z1, z2, z3, z4]) rfl ⟨.inr ⟨hfl.out, rfl⟩, below_put5 (C := w.heap.size + 1) B6 (by omega) (fun _ => .slice none 0 0)⟩
                · have d3 : ((len : Int) == 300) = false := beq_eq_false_iff_ne.2 (by omega)
                  obtain ⟨g5, cap5, w5, hr5, c05, f05, S4, oth4⟩ := S3.state y (by show (xp r t).1.length + 1 ≤ _; rw [hlen.out]; omega) 25
                  have hfn : fn r t 0 = len := hlen.out
                  rw [hfn] at hr5 S4 oth4
                  have S5 : So w r C (fun g => (kk w C g ∨ g = Lt) ∨ g = Rd) (up v 0 (.slice (some ⟨g5, 0, none⟩) (len + 1) cap5)) (fun c => if c = 0 then (xp r (t + 1)).1.length else t) (fun c => if c = 0 then flS (xp r (t + 1)).1 else fx r t c) (w5.setCell ⟨C, 0, none⟩ (.slice (some ⟨g5, 0, none⟩) (len + 1) cap5)) := S4.ext fun c hc => by
                    rcases (show c = 0 ∨ c = 1 ∨ c = 2 ∨ c = 3 ∨ c = 4 by omega) with rfl | rfl | rfl | rfl | rfl
                    · refine ⟨rfl, ?_, ?_⟩
                      · show (xp r (t + 1)).1.length = len + 1; rw [hnx, List.length_append, hlen.out]; rfl
                      · show flS (xp r (t + 1)).1 = flS (xp r t).1 ++ cS y; rw [hnx, flS_append]; simp [flS]
                    all_goals exact ⟨rfl, rfl, rfl⟩
                  have hl1 : (xp r (t + 1)).1.length ≤ 300 := by rw [hnx, List.length_append, hlen.out]; show len + 1 ≤ 300; omega
                  have hk1 : k < (xp r (t + 1)).1.length := by rw [hnx, List.length_append]; omega
                  have ht3 : t ≤ 5000 := by
                    have h1 := ht.out
                    have h2 : k * E ≤ 300 * 16 := Nat.mul_le_mul (by rw [hlen.out] at hk; omega) hE16
                    omega
                  have oL := oth4 Lt (.inl (.inr rfl)) hLC
                  have oR := oth4 Rd (.inr rfl) hRC
                  have c30 := (S3.fiv.c 0 (by omega)).1
                  obtain ⟨n0, n1, n2, n3, n4, n5, n6, n7, n8, n9, n10, n11, n12, n13, _⟩ := id sN
                  replace hL : Hid _ := hL
                  replace hx : Hid _ := hx
                  replace hnx : Hid _ := hnx
                  replace fx0 : Hid _ := fx0
                  replace hv0' : Hid _ := hv0'
                  clear S3 S4 hnd hxe hnm hix hnone h300
                  go_upto_region 24 with (fail)
                  clear hc3
                  refine region24 (by rfl) (by simp) (by simp) (by rfl) (by rfl) c30 sN hr5 c05 f05 ?_
                  intro zs
                  simp only [tA, l24, sets]
                  simp only [List.setIfInBounds_toArray, List.set_cons_succ, List.set_cons_zero]
                  generalize zs 91 = z91
                  generalize zs 92 = z92
                  generalize zs 93 = z93
                  generalize zs 94 = z94
                  generalize zs 95 = z95
                  generalize zs 96 = z96
                  replace p0' : (w5.setCell ⟨C, 0, none⟩ (.slice (some ⟨g5, 0, none⟩) (len + 1) cap5)).cell? ⟨Lt, 0, none⟩ = some (.int .i64 (lx : Int)) := (World.cell?_of_block (a := ⟨Lt, 0, none⟩) oL).trans p0'
                  replace p1' : (w5.setCell ⟨C, 0, none⟩ (.slice (some ⟨g5, 0, none⟩) (len + 1) cap5)).cell? ⟨Lt, 1, none⟩ = some (.int .i64 (ly : Int)) := (World.cell?_of_block (a := ⟨Lt, 1, none⟩) oL).trans p1'
                  replace sR := rnd_block sR oR
                  clear hr5 c05 f05 oth4 oL oR c30
                  go_wp2
                  refine region25 (by rfl) (by kernel_rfl) (by kernel_rfl) (by kernel_rfl) (B0 := w.heap.size) (B1 := w.heap.size) (wB := w) (k := k) (rr := rd) (lx := (lx : Int)) (ly := (ly : Int)) (by simp) (by rfl) (by rfl) (by rfl) (by rfl) (by rfl) S5.fam S5.fiv (.inl (.inl (.inr (.inr rfl)))) (.inl (.inr rfl)) (.inr rfl) hLC hRC p0' p1' sR (fun c h1 h5 => by
                    have h0 : ¬ c = 0 := by omega
                    simp only [if_neg h0]; omega) S5.below (by have := S5.cc; have := S5.below.size; omega) ?_
                  intro ys v' W6 hF6 hC6 oth6 bel6
                  have S6 := S5.stay hF6 hC6 oth6 bel6
                  have S7 := So.step (K' := fun g => (kk w C g ∨ g = Lt) ∨ g = Rd) (fun g q => .inl (.inl q)) (S6.ext fun c hc => ⟨rfl, by by_cases h0 : c = 0 <;> simp [h0], by by_cases h0 : c = 0 <;> simp [h0]⟩) fx1 fx2 fx3 fx4
                  rw [← ht1] at S7 hl1 hk1 hLv1
                  have hend : Hid (∃ (nn' : Nat) (v2 : Nat → Value), nn' ≤ E ∧ ((nn : Int) + 1) = (nn' : Int) ∧ (xp r (k * E + nn')).1.length ≤ 300 ∧ Live (sp r) E (K.start r) (k * E + nn') ∧ k < (xp r (k * E + nn')).1.length ∧ So w r C (kk w C) v2 (fn r (k * E + nn')) (fx r (k * E + nn')) W6) := ⟨nn + 1, _, by omega, by omega, hl1, hLv1, hk1, S7⟩
                  simp only [tA, l25, sets]
                  simp only [List.setIfInBounds_toArray, List.set_cons_succ, List.set_cons_zero]
                  generalize ys 97 = u97
                  generalize ys 98 = u98
                  generalize ys 99 = u99
                  generalize ys 100 = u100
                  generalize ys 101 = u101
                  generalize ys 102 = u102
                  generalize ys 103 = u103
                  generalize ys 104 = u104
                  generalize ys 105 = u105
                  generalize ys 106 = u106
                  generalize ys 107 = u107
                  generalize ys 108 = u108
                  generalize ys 109 = u109
                  generalize ys 110 = u110
                  generalize ys 111 = u111
                  generalize ys 112 = u112
                  generalize ys 113 = u113
                  generalize ys 114 = u114
                  generalize ys 115 = u115
                  generalize ys 116 = u116
                  generalize ys 117 = u117
                  generalize ys 118 = u118
                  generalize ys 119 = u119
                  generalize ys 120 = u120
                  clear S5 S6 S7 hF6 hC6 oth6 bel6 hl1 hk1 hLv1 fx0 fx1 fx2 fx3 fx4 ht1 hnx hEx p0' p1' sN sR hLC hRC
                  go_wp2
                  go_roundw
                  case rel =>
                    obtain ⟨nn', v2, a1, a2, a3⟩ := hend.out
                    exact ⟨nn', v2, a1, by rw [← a2], a3⟩
                  case measure => simp [intOf]; omega
              · have hmem : y ∈ (xp r t).1 := List.mem_of_getElem? hjy
                have hix : ix (xp r t).1 y = j := ix_at hnd hjy
                rw [hix] at fx2
                have hnx : (xp r (t + 1)).1 = (xp r t).1 := by rw [fx0]; unfold Ytilpooifggofiaa.nx; rw [if_pos hmem]
                have S5 : So w r C (fun g => (kk w C g ∨ g = Lt) ∨ g = Rd) v (fun c => if c = 0 then (xp r (t + 1)).1.length else t) (fun c => if c = 0 then flS (xp r (t + 1)).1 else fx r t c) wr := S3.ext fun c hc => by
                  rcases (show c = 0 ∨ c = 1 ∨ c = 2 ∨ c = 3 ∨ c = 4 by omega) with rfl | rfl | rfl | rfl | rfl
                  · refine ⟨rfl, ?_, ?_⟩
                    · show (xp r (t + 1)).1.length = (xp r t).1.length; rw [hnx]
                    · show flS (xp r (t + 1)).1 = flS (xp r t).1; rw [hnx]
                  all_goals exact ⟨rfl, rfl, rfl⟩
                have hl1 : (xp r (t + 1)).1.length ≤ 300 := by rw [hnx]; exact hl3
                have hk1 : k < (xp r (t + 1)).1.length := by rw [hnx]; exact hk
                have dj : decide ((j : Int) < 0) = false := decide_eq_false (by omega)
                have ht3 : t ≤ 5000 := by
                  have h1 := ht.out
                  have h2 : k * E ≤ 300 * 16 := Nat.mul_le_mul (by omega) hE16
                  omega
                replace hL : Hid _ := hL
                replace hx : Hid _ := hx
                clear S3 hnd hxe hjy hmem hix
                go_wp2
                refine region25 (by rfl) (by kernel_rfl) (by kernel_rfl) (by kernel_rfl) (B0 := w.heap.size) (B1 := w.heap.size) (wB := w) (k := k) (rr := rd) (lx := (lx : Int)) (ly := (ly : Int)) (by simp) (by rfl) (by rfl) (by rfl) (by rfl) (by rfl) S5.fam S5.fiv (.inl (.inl (.inr (.inr rfl)))) (.inl (.inr rfl)) (.inr rfl) hLC hRC p0' p1' sR (fun c h1 h5 => by
                  have h0 : ¬ c = 0 := by omega
                  simp only [if_neg h0]; omega) S5.below (by have := S5.cc; have := S5.below.size; omega) ?_
                intro ys v' W6 hF6 hC6 oth6 bel6
                have S6 := S5.stay hF6 hC6 oth6 bel6
                have S7 := So.step (K' := fun g => (kk w C g ∨ g = Lt) ∨ g = Rd) (fun g q => .inl (.inl q)) (S6.ext fun c hc => ⟨rfl, by by_cases h0 : c = 0 <;> simp [h0], by by_cases h0 : c = 0 <;> simp [h0]⟩) fx1 fx2 fx3 fx4
                rw [← ht1] at S7 hl1 hk1 hLv1
                have hend : Hid (∃ (nn' : Nat) (v2 : Nat → Value), nn' ≤ E ∧ ((nn : Int) + 1) = (nn' : Int) ∧ (xp r (k * E + nn')).1.length ≤ 300 ∧ Live (sp r) E (K.start r) (k * E + nn') ∧ k < (xp r (k * E + nn')).1.length ∧ So w r C (kk w C) v2 (fn r (k * E + nn')) (fx r (k * E + nn')) W6) := ⟨nn + 1, _, by omega, by omega, hl1, hLv1, hk1, S7⟩
                simp only [tA, l25, sets]
                simp only [List.setIfInBounds_toArray, List.set_cons_succ, List.set_cons_zero]
                generalize ys 97 = u97
                generalize ys 98 = u98
                generalize ys 99 = u99
                generalize ys 100 = u100
                generalize ys 101 = u101
                generalize ys 102 = u102
                generalize ys 103 = u103
                generalize ys 104 = u104
                generalize ys 105 = u105
                generalize ys 106 = u106
                generalize ys 107 = u107
                generalize ys 108 = u108
                generalize ys 109 = u109
                generalize ys 110 = u110
                generalize ys 111 = u111
                generalize ys 112 = u112
                generalize ys 113 = u113
                generalize ys 114 = u114
                generalize ys 115 = u115
                generalize ys 116 = u116
                generalize ys 117 = u117
                generalize ys 118 = u118
                generalize ys 119 = u119
                generalize ys 120 = u120
                clear S5 S6 S7 hF6 hC6 oth6 bel6 hl1 hk1 hLv1 fx0 fx1 fx2 fx3 fx4 ht1 hnx hEx p0' p1' sN sR hLC hRC
                go_wp2
                go_roundw
                case rel =>
                  obtain ⟨nn', v2, a1, a2, a3⟩ := hend.out
                  exact ⟨nn', v2, a1, by rw [← a2], a3⟩
                case measure => simp [intOf]; omega
        · have hnn : nn = E := by omega
          have hnI : ¬ (nn : Int) < (E : Int) := by omega
          have hm1 : k * E + nn = (k + 1) * ee r := by rw [hE.out, Nat.add_mul, Nat.one_mul, hnn]
          rw [hm1] at hl3 hL hk hS
          have hk300 : k ≤ 300 := by omega
          have hend : Hid (∃ (k' : Nat) (v2 : Nat → Value), ((k : Int) + 1) = (k' : Int) ∧ k' ≤ (xp r (k' * ee r)).1.length ∧ (xp r (k' * ee r)).1.length ≤ 300 ∧ Live (sp r) (ee r) (K.start r) (k' * ee r) ∧ So w r C (kk w C) v2 (fn r (k' * ee r)) (fx r (k' * ee r)) wr) := ⟨k + 1, v, by omega, hk, hl3, by rw [show Live (sp r) (ee r) = Live (sp r) E by rw [hE.out]]; exact hL, hS⟩
          have hw5 : IntKind.i64.wrap ((k : Int) + 1) = (k : Int) + 1 := wrapIn (by omega)
          clear hl3 hL hk hS hm1
          go_wp2
          go_roundw
          case rel =>
            obtain ⟨k', v2, a2, a3⟩ := hend.out
            exact ⟨k', v2, by rw [← a2], a3⟩
          case measure => simp [intOf]; omega
    · have hdec : ¬ (k : Int) < ((xp r (k * ee r)).1.length : Int) := by omega
      have hkl2 : k = (xp r (k * ee r)).1.length := by omega
      have hdn : Hid (Dn r (k * ee r)) := ⟨hLv, by rw [← hkl2, Nat.mul_comm], hk3⟩
      have hsl : ∀ c, c < 5 → ∃ o n cp, v c = .slice o n cp := fun c hc => by
        obtain ⟨_, ⟨e, _⟩ | ⟨g, cap, cur, e, _⟩⟩ := hS.fam.own c hc
        · exact ⟨none, 0, 0, e⟩
        · exact ⟨some ⟨g, 0, none⟩, _, cap, e⟩
      obtain ⟨o1, m1, c1, e1⟩ := hsl 1 (by omega)
      obtain ⟨o2, m2, c2, e2⟩ := hsl 2 (by omega)
      obtain ⟨o3, m3, c3, e3⟩ := hsl 3 (by omega)
      obtain ⟨o4, m4, c4, e4⟩ := hsl 4 (by omega)
      have p1 := (hS.fiv.c 1 (by omega)).1
      have p2 := (hS.fiv.c 2 (by omega)).1
      have p3 := (hS.fiv.c 3 (by omega)).1
      have p4 := (hS.fiv.c 4 (by omega)).1
      rw [e1] at p1
      rw [e2] at p2
      rw [e3] at p3
      rw [e4] at p4
      have Y := hS.res
      have hCg : C ≠ w.heap.size + 1 := by have := hS.cc; omega
      have hCl : C < wr.heap.size := block_lt p1
      have Z := Y.fiv.all v
      have hK : kk w C (w.heap.size + 1) := .inr (.inl rfl)
      have F5 := ((((((hS.fam.put (p := ⟨w.heap.size + 1, 0, none⟩) hK (v 0)).put (p := ⟨w.heap.size + 1, 1, none⟩) hK (v 1)).put (p := ⟨w.heap.size + 1, 2, none⟩) hK (v 2)).put (p := ⟨w.heap.size + 1, 3, none⟩) hK (v 3)).put (p := ⟨w.heap.size + 1, 4, none⟩) hK (v 4)).less (K' := fun _ => False) (fun _ q => q.elim))
      have B6 := below_put5 (C := w.heap.size + 1) hS.below (by omega) v
      obtain ⟨y0, g0'⟩ := Y.c 0 (by omega)
      obtain ⟨y1, g1⟩ := Y.c 1 (by omega)
      obtain ⟨y2, g2⟩ := Y.c 2 (by omega)
      obtain ⟨y3, g3⟩ := Y.c 3 (by omega)
      obtain ⟨y4, g4⟩ := Y.c 4 (by omega)
      obtain ⟨z0, _⟩ := Z.c 0 (by omega)
      obtain ⟨z1, _⟩ := Z.c 1 (by omega)
      obtain ⟨z2, _⟩ := Z.c 2 (by omega)
      obtain ⟨z3, _⟩ := Z.c 3 (by omega)
      obtain ⟨z4, _⟩ := Z.c 4 (by omega)
      have hfin : Hid (∃ W5, W5 = put5 wr (w.heap.size + 1) v ∧ Fam w.heap.size (fun _ => False) v (fn r (k * ee r)) (fx r (k * ee r)) W5 ∧ Below w.heap.size w W5) := ⟨_, rfl, F5, B6⟩
      simp only [put5] at z0 z1 z2 z3 z4
      rw [hv0, e1, e2, e3, e4] at z0 z1 z2 z3 z4
      have hE5 : Hid (v 0 = .slice (some ⟨g0, 0, none⟩) (xp r (k * ee r)).1.length cp0 ∧ v 1 = .slice o1 m1 c1 ∧ v 2 = .slice o2 m2 c2 ∧ v 3 = .slice o3 m3 c3 ∧ v 4 = .slice o4 m4 c4) := ⟨hv0, e1, e2, e3, e4⟩
      clear hS Y Z F5 B6 hv0 e1 e2 e3 e4 hsl hLv hkl2 hkl hk3 hcp0
      generalize (xp r (k * ee r)).1.length = len at *
      go_wp2
      obtain ⟨W5, hW5, a1, a2⟩ := hfin.out
      obtain ⟨b0, b1, b2, b3, b4⟩ := hE5.out
      refine bodyPost_ret (v := .tuple #[.agg #[v 0, v 1, v 2, v 3, v 4], .int .i64 0]) (by rw [b0, b1, b2, b3, b4]; simp [results, Try.results7, go_sem, z0, z1, z2, z3, z4]) rfl ⟨.inl ⟨k * ee r, hdn.out, v, rfl, ?_⟩, ?_⟩
      · have := a1; rw [hW5] at this; simp only [put5] at this; rw [b0, b1, b2, b3, b4] at this; exact this
      · have := a2; rw [hW5] at this; simp only [put5] at this; rw [b0, b1, b2, b3, b4] at this; exact this
end Go.Proofs.Ytilpooifggofiaa.D

namespace Go.Proofs.Ytilpooifggofiaa.D
open Go.RowKit K
set_option linter.unusedVariables false

/-- what lies in memory of the document's own space -/
structure Spc (r : Ru) (T g0 g1 g2 g3 g4 : Nat) (w : World) : Prop where
  st : ∀ i s, (xp r T).1[i]? = some s → Sat w g0 (i * 14) s
  fr : ∀ u, u < T → w.cell? ⟨g1, u, none⟩ = some (.int .i64 ((u / ee r : Nat) : Int))
  tw : ∀ u, u < T → w.cell? ⟨g2, u, none⟩ = some (.int .i64 (((xp r T).2.getD u 0 : Nat) : Int))
  la : ∀ u, u < T → w.cell? ⟨g3, u * 2, none⟩ = some (.int .i64 (pr r (u % ee r)).1) ∧ w.cell? ⟨g3, u * 2 + 1, none⟩ = some (.int .i64 (pr r (u % ee r)).2)
  ro : ∀ u, u < T → RAt w g4 (u * 6) (K.round r ((xp r T).1.getD (u / ee r) (K.start r)))
theorem Spc.kept {r : Ru} {T g0 g1 g2 g3 g4 : Nat} {w w' : World} (h : Spc r T g0 g1 g2 g3 g4 w) (b : Below w.heap.size w w') : Spc r T g0 g1 g2 g3 g4 w' :=
  ⟨fun i s hi => (h.st i s hi).kept b, fun u hu => (b.cell (p := ⟨g1, u, none⟩) (block_lt (h.fr u hu))).trans (h.fr u hu), fun u hu => (b.cell (p := ⟨g2, u, none⟩) (block_lt (h.tw u hu))).trans (h.tw u hu), fun u hu => ⟨(b.cell (p := ⟨g3, u * 2, none⟩) (block_lt (h.la u hu).1)).trans (h.la u hu).1, (b.cell (p := ⟨g3, u * 2 + 1, none⟩) (block_lt (h.la u hu).2)).trans (h.la u hu).2⟩, fun u hu => (h.ro u hu).kept b⟩
def SoSome : Prop := ∀ (r : Ru) (T : Nat), wrong r = 0 → Dn r T → ∀ w, Calls Try.prog 7 #[.agg #[.int .i64 r.k0, .int .i64 r.k1, .int .i64 r.r, .int .i64 r.m, .int .i64 r.j]] w fun e w' => ∃ g0 c0 g1 c1 g2 c2 g3 c3 g4 c4, e = .returned (.tuple #[.agg #[.slice (some ⟨g0, 0, none⟩) (xp r T).1.length c0, .slice (some ⟨g1, 0, none⟩) T c1, .slice (some ⟨g2, 0, none⟩) T c2, .slice (some ⟨g3, 0, none⟩) T c3, .slice (some ⟨g4, 0, none⟩) T c4], .int .i64 0]) ∧ Spc r T g0 g1 g2 g3 g4 w' ∧ Below w.heap.size w w'
/-- a row of n elements of s cells -/
theorem row_at {w : World} {base e s : Nat} {t : Value} {n : Nat} {xs : List Value} (h : w.ownsRow base e s t n xs) (hn : 1 ≤ n) : ∃ g cap, t = .slice (some ⟨g, 0, none⟩) n cap ∧ ∀ j x, j < n * s → xs[j]? = some x → w.cell? ⟨g, j, none⟩ = some x := by
  obtain ⟨hl, ⟨e, e2⟩ | ⟨g, cap, cur, e, hg, hh, hc, _, hcs, htk⟩⟩ := h
  · omega
  · refine ⟨g, cap, e, fun j x hj hx => ?_⟩
    rw [← htk, List.getElem?_take_of_lt (by omega)] at hx
    simp only [World.cell?, hh]
    rw [← hx]
    simp
theorem flat2_get (f : Nat → Value) (g : Nat → Value) (T : Nat) : ∀ u, u < T → ((List.range T).flatMap fun i => [f i, g i])[u * 2]? = some (f u) ∧ ((List.range T).flatMap fun i => [f i, g i])[u * 2 + 1]? = some (g u) := by
  induction T with
  | zero => intro u h; omega
  | succ T ih =>
    intro u h
    have hl : ((List.range T).flatMap fun i => [f i, g i]).length = T * 2 := by
      clear ih h
      induction T with
      | zero => rfl
      | succ T ih => rw [List.range_succ, List.flatMap_append, List.length_append, ih]; simp; omega
    rw [List.range_succ, List.flatMap_append]
    rcases Nat.lt_succ_iff_lt_or_eq.1 h with q | rfl
    · rw [List.getElem?_append_left (by omega), List.getElem?_append_left (by omega)]; exact ih u q
    · rw [List.getElem?_append_right (by omega), List.getElem?_append_right (by omega), hl]
      simp
theorem rdL_get {r : Ru} {T : Nat} (hL : Live (sp r) (ee r) (K.start r) T) : (rdL r T).length = T ∧ ∀ u, u < T → (rdL r T).getD u R0 = K.round r ((xp r T).1.getD (u / ee r) (K.start r)) := by
  induction T with
  | zero => exact ⟨rfl, fun u h => by omega⟩
  | succ T ih =>
    obtain ⟨h1, h2⟩ := ih (hL.less (by omega))
    refine ⟨by simp [rdL, h1], fun u hu => ?_⟩
    obtain ⟨x, hx, _⟩ := ex_succ (hL T (by omega))
    have old : ∀ v, v ≤ T → v / ee r < (xp r T).1.length → (xp r (T + 1)).1.getD (v / ee r) (K.start r) = (xp r T).1.getD (v / ee r) (K.start r) := fun v _ hv => by
      have e : (xp r T).1[v / ee r]? = some (xp r T).1[v / ee r] := List.getElem?_eq_getElem hv
      have := ex_old (t := T) (d := 1) hL e
      have this' : (xp r (T + 1)).1[v / ee r]? = some (xp r T).1[v / ee r] := this
      rw [List.getD_eq_getElem?_getD, List.getD_eq_getElem?_getD, this', e]
    have hTl : T / ee r < (xp r T).1.length := (List.getElem?_eq_some_iff.1 hx).1
    rcases Nat.lt_succ_iff_lt_or_eq.1 hu with q | rfl
    · have e1 : (rdL r (T + 1)).getD u R0 = (rdL r T).getD u R0 := by
        rw [rdL, List.getD_eq_getElem?_getD, List.getElem?_append_left (by omega), ← List.getD_eq_getElem?_getD]
      rw [e1, h2 u q, old u (by omega) (Nat.lt_of_le_of_lt (Nat.div_le_div_right (by omega)) hTl)]
    · have e1 : (rdL r (u + 1)).getD u R0 = K.round r ((xp r u).1.getD (u / ee r) (K.start r)) := by
        rw [rdL, List.getD_eq_getElem?_getD, List.getElem?_append_right (by omega), h1]; simp
      rw [e1, old u (Nat.le_refl _) hTl]
theorem so_some : SoSome := fun r T hw hT w => (sof_any r hw w).mono fun e w' hh => by
  obtain ⟨⟨T', v, hT', rfl, hF⟩ | ⟨hf, _⟩, b⟩ := hh
  · obtain rfl := dn_same hT hT'
    obtain ⟨hl1, hT1, _⟩ := dn_pos hT
    have o0 : w'.ownsRow w.heap.size 48 14 (v 0) (xp r T).1.length (flS (xp r T).1) := hF.own 0 (by omega)
    have hx2 : (xp r T).2.length = T := ex_len hT.1
    obtain ⟨x, hx⟩ : ∃ x, (xp r T).1[0]? = some x := ⟨_, List.getElem?_eq_getElem hl1⟩
    obtain ⟨g0, c0, e0, hc0, _, _⟩ := own_state o0 hx
    obtain ⟨g1, c1, e1, k1⟩ := row_at (hF.own 1 (by omega)) hT1
    obtain ⟨g2, c2, e2, k2⟩ := row_at (hF.own 2 (by omega)) hT1
    obtain ⟨g3, c3, e3, k3⟩ := row_at (hF.own 3 (by omega)) hT1
    obtain ⟨g4, c4, e4, k4⟩ := row_at (hF.own 4 (by omega)) hT1
    obtain ⟨r1, r2⟩ := rdL_get hT.1
    refine ⟨g0, c0, g1, c1, g2, c2, g3, c3, g4, c4, by rw [e0, e1, e2, e3, e4]; rfl, ⟨fun i s hi => ?_, fun u hu => ?_, fun u hu => ?_, fun u hu => ?_, fun u hu => ?_⟩, b⟩
    · obtain ⟨g, cp, e, _, _, q⟩ := own_state o0 hi
      rw [e0] at e
      injection e with e _ _
      injection e with e
      injection e with e _ _
      subst e
      exact q
    · refine k1 u _ (by show u < T * 1; omega) ?_
      show ((List.range T).map _)[u]? = _
      rw [List.getElem?_map, List.getElem?_range hu]; rfl
    · refine k2 u _ (by show u < T * 1; omega) ?_
      show ((xp r T).2.map _)[u]? = _
      rw [List.getElem?_map, List.getD_eq_getElem?_getD, List.getElem?_eq_getElem (by omega)]; rfl
    · obtain ⟨q1, q2⟩ := flat2_get (fun i => .int .i64 ((i % ee r / jj r : Nat) : Int)) (fun i => .int .i64 ((i % ee r % jj r : Nat) : Int)) T u hu
      exact ⟨k3 _ _ (by show u * 2 < T * 2; omega) q1, k3 _ _ (by show u * 2 + 1 < T * 2; omega) q2⟩
    · have key : ∀ i, i < 6 → ∀ y, (cellsR (K.round r ((xp r T).1.getD (u / ee r) (K.start r))))[i]? = some y → w'.cell? ⟨g4, u * 6 + i, none⟩ = some y := fun i hi y hy => by
        refine k4 _ _ (by show u * 6 + i < T * 6; omega) ?_
        show (flatR (rdL r T))[u * 6 + i]? = _
        rw [flatR_get _ u i (by omega) hi, r2 u hu]; exact hy
      exact ⟨key 0 (by omega) _ rfl, key 1 (by omega) _ rfl, key 2 (by omega) _ rfl, key 3 (by omega) _ rfl, key 4 (by omega) _ rfl, key 5 (by omega) _ rfl⟩
  · exact (dn_fl hT hf).elim

end Go.Proofs.Ytilpooifggofiaa.D

namespace Go.Proofs.Ytilpooifggofiaa.D
open Go.RowKit K
set_option linter.unusedVariables false

def OSL : List (Op × Option Nat) := [(.load 30 (.tmp 2), some 20), (.fieldAddr 30 (.tmp 2) 1, some 21), (.load 26 (.tmp 21), some 22), (.move (.tmp 5), some 23), (.indexAddr 26 (.tmp 22) (.tmp 23), some 24), (.load 3 (.tmp 24), some 25), (.call { callee := .value (.func 13), args := #[.tmp 20, .tmp 25], argTypes := #[30, 3] }, some 26), (.fieldAddr 30 (.tmp 2) 3, some 27), (.load 27 (.tmp 27), some 28), (.move (.tmp 5), some 29), (.indexAddr 27 (.tmp 28) (.tmp 29), some 30), (.load 22 (.tmp 30), some 31), (.buildSlice 27 1 #[(0, .tmp 31)], some 32), (.call { callee := .builtin .append, args := #[.tmp 26, .tmp 32], argTypes := #[27, 27] }, some 33), (.assign (.tmp 33), some 4)]
def DSL : List (List Nat) := [[], [], [1], [], [2, 3], [4], [0, 5], [], [7], [], [8, 9], [10], [11], [6, 12], [13]]
def lSL : List Nat := [20, 21, 22, 23, 24, 25, 26, 27, 28, 29, 30, 31, 32, 33, 4]
section
variable {ev : Operand → Value} {w : World}
theorem ex_l30 {o : Oper} {P s : Nat} {a b c d e : Value} (ho : o.op = .load 30 (.tmp s)) (h : ev (.tmp s) = .pointer (some ⟨P, 0, none⟩)) (h0 : w.cell? ⟨P, 0, none⟩ = some a) (h1 : w.cell? ⟨P, 1, none⟩ = some b) (h2 : w.cell? ⟨P, 2, none⟩ = some c) (h3 : w.cell? ⟨P, 3, none⟩ = some d) (h4 : w.cell? ⟨P, 4, none⟩ = some e) : (execOp ev o).run Try.prog w = .ok (.value (.agg #[a, b, c, d, e])) w := by
  simp [execOp, ho, h, go_sem, h0, h1, h2, h3, h4]
theorem ex_i27 {o : Oper} {g n cp s x k : Nat} (ho : o.op = .indexAddr 27 (.tmp s) (.tmp x)) (h : ev (.tmp s) = .slice (some ⟨g, 0, none⟩) n cp) (hx : ev (.tmp x) = .int .i64 (k : Int)) (hk : (k : Int) < (n : Int)) : (execOp ev o).run Try.prog w = .ok (.value (.pointer (some ⟨g, k * 2, none⟩))) w := by
  have h1 : k < n := by omega
  simp [execOp, ho, h, hx, go_sem, h1]
theorem ex_l22 {o : Oper} {g p s : Nat} {x y : Value} (ho : o.op = .load 22 (.tmp s)) (h : ev (.tmp s) = .pointer (some ⟨g, p, none⟩)) (h0 : w.cell? ⟨g, p, none⟩ = some x) (h1 : w.cell? ⟨g, p + 1, none⟩ = some y) : (execOp ev o).run Try.prog w = .ok (.value (.agg #[x, y])) w := by
  simp [execOp, ho, h, go_sem, h0, h1]
theorem ex_c2 {o : Oper} {f s1 s2 : Nat} {v1 v2 : Value} {ts : Array TypeId} (ho : o.op = .call { callee := .value (.func f), args := #[.tmp s1, .tmp s2], argTypes := ts }) (hf : ev (.func f) = .func (.func f) #[] #[]) (h1 : ev (.tmp s1) = v1) (h2 : ev (.tmp s2) = v2) (hc : (callFunc f #[v1, v2]).run Try.prog w = .ok (.enter f #[v1, v2]) w) : (execOp ev o).run Try.prog w = .ok (.enter f #[v1, v2]) w := by
  simp [execOp, ho, h1, h2, hf, go_sem, hc]
end
/-- where each leaves what it yields -/
def sSL (i : Nat) : Nat := if i = 14 then 4 else 20 + i
theorem sSL_ne {i j : Nat} (hi : i < 15) (hj : j < 15) (h : j ≠ i) : sSL j ≠ sSL i := by
  unfold sSL; split <;> split <;> omega
/-- what holds behind whichever have come up -/
structure GL (W : World) (vals : Nat → Value) (n : Nat) (xs : List Value) (x z : Int) (L : Array Bool) (y : Nat → Value) (t t' : Value) (b : Nat) (w : World) : Prop where
  ls : L.size = 15
  sl : ∀ i, i < 15 → i ≠ 6 → i ≠ 12 → i ≠ 13 → i ≠ 14 → L.getD i false = true → y (sSL i) = vals i
  bel : Below W.heap.size W w
  ca : L.getD 6 false = true → y 26 = t
  bu : L.getD 12 false = true → y 32 = .slice (some ⟨b, 0, none⟩) 1 1
  row : L.getD 6 false = true → L.getD 13 false = false → w.ownsRow W.heap.size 22 2 t n xs
  lit : L.getD 12 false = true → L.getD 13 false = false → w.heap[b]? = some (.cells #[.int .i64 x, .int .i64 z] 22 (0, 0)) ∧ W.heap.size ≤ b ∧ (L.getD 6 false = true → t.ownBlock ≠ some b)
  ap : L.getD 13 false = true → y 33 = t' ∧ w.ownsRow W.heap.size 22 2 t' (n + 1) (xs ++ [.int .i64 x, .int .i64 z])
  asg : L.getD 14 false = true → y 4 = t'
  cl : (L.getD 13 false = true → L.getD 6 false = true ∧ L.getD 12 false = true) ∧ (L.getD 14 false = true → L.getD 13 false = true)
section
variable {W : World} {vals : Nat → Value} {n : Nat} {xs : List Value} {x z : Int} {L : Array Bool} {y : Nat → Value} {t t' : Value} {b : Nat} {w : World}
theorem GL.keepsl (h : GL W vals n xs x z L y t t' b w) {i : Nat} (hi : i < 15) (u : Value) (hu : (i ≠ 6 ∧ i ≠ 12 ∧ i ≠ 13 ∧ i ≠ 14) → u = vals i) : ∀ j, j < 15 → j ≠ 6 → j ≠ 12 → j ≠ 13 → j ≠ 14 → (L.setIfInBounds i true).getD j false = true → up y (sSL i) u (sSL j) = vals j := fun j hj h1 h2 h3 h4 hl => by
  rw [getD_set (by rw [h.ls]; exact hi)] at hl
  by_cases e : j = i
  · subst e; rw [up_at]; exact hu ⟨h1, h2, h3, h4⟩
  · rw [if_neg e] at hl
    rw [up_ne _ _ _ (sSL_ne hi hj e)]; exact h.sl j hj h1 h2 h3 h4 hl
/-- what yields, and leaves the world -/
theorem GL.pure (h : GL W vals n xs x z L y t t' b w) {i : Nat} (hi : i < 15) (h1 : i ≠ 6) (h2 : i ≠ 12) (h3 : i ≠ 13) (h4 : i ≠ 14) : GL W vals n xs x z (L.setIfInBounds i true) (up y (sSL i) (vals i)) t t' b w := by
  have g : ∀ j, j ≠ i → (L.setIfInBounds i true).getD j false = L.getD j false := fun j hj => by rw [getD_set (by rw [h.ls]; exact hi), if_neg hj]
  have s : ∀ j, j < 15 → j ≠ i → up y (sSL i) (vals i) (sSL j) = y (sSL j) := fun j hj hn => up_ne _ _ _ (sSL_ne hi hj hn)
  refine ⟨by simp [h.ls], h.keepsl hi _ (fun _ => rfl), h.bel, ?_, ?_, ?_, ?_, ?_, ?_, ?_⟩
  · rw [g 6 h1.symm]; intro q; exact (s 6 (by omega) h1.symm).trans (h.ca q)
  · rw [g 12 h2.symm]; intro q; exact (s 12 (by omega) h2.symm).trans (h.bu q)
  · rw [g 6 h1.symm, g 13 h3.symm]; exact h.row
  · rw [g 12 h2.symm, g 13 h3.symm, g 6 h1.symm]; exact h.lit
  · rw [g 13 h3.symm]; intro q; exact ⟨(s 13 (by omega) h3.symm).trans (h.ap q).1, (h.ap q).2⟩
  · rw [g 14 h4.symm]; intro q; exact (s 14 (by omega) h4.symm).trans (h.asg q)
  · rw [g 13 h3.symm, g 6 h1.symm, g 12 h2.symm, g 14 h4.symm]; exact h.cl
theorem off13 (h : GL W vals n xs x z L y t t' b w) {i : Nat} (hi : i = 6 ∨ i = 12) (hno : L.getD i false = false) : L.getD 13 false = false ∧ L.getD 14 false = false := by
  have a : L.getD 13 false = false := by
    cases q : L.getD 13 false with
    | false => rfl
    | true => obtain ⟨a, b⟩ := h.cl.1 q; rcases hi with rfl | rfl <;> simp_all
  refine ⟨a, ?_⟩
  cases q : L.getD 14 false with
  | false => rfl
  | true => have := h.cl.2 q; rw [a] at this; cases this
/-- it has called itself -/
theorem GL.called (h : GL W vals n xs x z L y t t' b w) (hno : L.getD 6 false = false) {u : Value} {w2 : World} (ho : w2.ownsRow w.heap.size 22 2 u n xs) (hb : Below w.heap.size w w2) : GL W vals n xs x z (L.setIfInBounds 6 true) (up y 26 u) u t' b w2 := by
  have g : ∀ j, j ≠ 6 → (L.setIfInBounds 6 true).getD j false = L.getD j false := fun j hj => by rw [getD_set (by rw [h.ls]; omega), if_neg hj]
  have s : ∀ j, j < 15 → j ≠ 6 → up y 26 u (sSL j) = y (sSL j) := fun j hj hn => up_ne _ _ _ (sSL_ne (i := 6) (by omega) hj hn)
  obtain ⟨a13, a14⟩ := off13 h (.inl rfl) hno
  have hsz := h.bel.size
  refine ⟨by simp [h.ls], h.keepsl (i := 6) (by omega) _ (fun q => absurd rfl q.1), bthen h.bel hb, fun _ => up_at _ _ _, ?_, ?_, ?_, ?_, ?_, ?_⟩
  · rw [g 12 (by omega)]; intro q; exact (s 12 (by omega) (by omega)).trans (h.bu q)
  · intro _ _
    obtain ⟨hl, e | ⟨gg, cap, cur, e, hg, hh, hc, r⟩⟩ := ho
    · exact ⟨hl, .inl e⟩
    · exact ⟨hl, .inr ⟨gg, cap, cur, e, by omega, hh, hc, r⟩⟩
  · rw [g 12 (by omega), g 13 (by omega)]
    intro q1 q2
    obtain ⟨l1, l2, _⟩ := h.lit q1 q2
    have hlt := (Array.getElem?_eq_some_iff.1 l1).1
    exact ⟨(hb.block b hlt).trans l1, l2, fun _ q => by have := (ho.lt b q).1; omega⟩
  · rw [g 13 (by omega), a13]; intro q; cases q
  · rw [g 14 (by omega), a14]; intro q; cases q
  · rw [g 13 (by omega), g 14 (by omega), a13, a14]; exact ⟨fun q => (by cases q), fun q => (by cases q)⟩
/-- the literal -/
theorem GL.built (h : GL W vals n xs x z L y t t' b w) (hno : L.getD 12 false = false) : GL W vals n xs x z (L.setIfInBounds 12 true) (up y 32 (.slice (some ⟨w.heap.size, 0, none⟩) 1 1)) t t' w.heap.size (w.alloc (.cells #[.int .i64 x, .int .i64 z] 22)) := by
  have g : ∀ j, j ≠ 12 → (L.setIfInBounds 12 true).getD j false = L.getD j false := fun j hj => by rw [getD_set (by rw [h.ls]; omega), if_neg hj]
  have s : ∀ j, j < 15 → j ≠ 12 → up y 32 (.slice (some ⟨w.heap.size, 0, none⟩) 1 1) (sSL j) = y (sSL j) := fun j hj hn => up_ne _ _ _ (sSL_ne (i := 12) (by omega) hj hn)
  obtain ⟨a13, a14⟩ := off13 h (.inr rfl) hno
  have hb : Below w.heap.size w (w.alloc (.cells #[.int .i64 x, .int .i64 z] 22)) := balloc (Below.refl _ _) _
  refine ⟨by simp [h.ls], h.keepsl (i := 12) (by omega) _ (fun q => absurd rfl q.2.1), bthen h.bel hb, ?_, fun _ => up_at _ _ _, ?_, ?_, ?_, ?_, ?_⟩
  · rw [g 6 (by omega)]; intro q; exact (s 6 (by omega) (by omega)).trans (h.ca q)
  · rw [g 6 (by omega), g 13 (by omega)]; intro q1 q2
    exact own_same (h.row q1 q2) fun gg hq => hb.block gg ((h.row q1 q2).lt gg hq).2
  · rw [g 6 (by omega)]
    intro _ _
    exact ⟨by show (w.heap.push _)[w.heap.size]? = _; simp, h.bel.size, fun q e => by have := ((h.row q a13).lt _ e).2; omega⟩
  · rw [g 13 (by omega), a13]; intro q; cases q
  · rw [g 14 (by omega), a14]; intro q; cases q
  · rw [g 13 (by omega), g 14 (by omega), a13, a14]; exact ⟨fun q => (by cases q), fun q => (by cases q)⟩
/-- they are laid together -/
theorem GL.apped (h : GL W vals n xs x z L y t t' b w) (h6 : L.getD 6 false = true) (h12 : L.getD 12 false = true) (hno : L.getD 13 false = false) (hn : n ≤ 100000) (ty : Nat) : ∃ u w2, (Builtin.append_ #[27, 27] ty #[t, .slice (some ⟨b, 0, none⟩) 1 1]).run Try.prog w = .ok u w2 ∧ GL W vals n xs x z (L.setIfInBounds 13 true) (up y 33 u) t u b w2 := by
  obtain ⟨i0, hi, hz0, hz1, hz2⟩ := info_parts Try.info22
  obtain ⟨l1, l2, l3⟩ := h.lit h12 hno
  obtain ⟨v', w2, hrun, hown, hgrow, _⟩ := run_append_own (P := Try.prog) w W.heap.size 27 ty 22 i0 (.agg #[.int .i64 0, .int .i64 0]) 2 16 Try.underlying27 hi hz0 hz1 hz2 rfl (by decide) t n xs (h.row h6 hno) ⟨b, 0, none⟩ 1 1 [.int .i64 x, .int .i64 z] rfl (fun j u hu => by
    rw [Addr.add_lit, Nat.zero_add]
    simp [World.cell?, l1]
    simpa using hu) (by simp [Value.oneCell']) (by unfold maxLen; omega) (by omega) h.bel.size
  have g : ∀ j, j ≠ 13 → (L.setIfInBounds 13 true).getD j false = L.getD j false := fun j hj => by rw [getD_set (by rw [h.ls]; omega), if_neg hj]
  have g13 : (L.setIfInBounds 13 true).getD 13 false = true := by rw [getD_set (by rw [h.ls]; omega), if_pos rfl]
  have s : ∀ j, j < 15 → j ≠ 13 → up y 33 v' (sSL j) = y (sSL j) := fun j hj hn => up_ne _ _ _ (sSL_ne (i := 13) (by omega) hj hn)
  have a14 : L.getD 14 false = false := by
    cases q : L.getD 14 false with
    | false => rfl
    | true => have := h.cl.2 q; rw [hno] at this; cases this
  refine ⟨v', w2, hrun, by simp [h.ls], h.keepsl (i := 13) (by omega) _ (fun q => absurd rfl q.2.2.1), h.bel.grown hgrow h.bel.size (fun q hq => ((h.row h6 hno).lt q hq).1), ?_, ?_, ?_, ?_, fun _ => ⟨up_at _ _ _, hown⟩, ?_, ?_⟩
  · rw [g 6 (by omega)]; intro q; exact (s 6 (by omega) (by omega)).trans (h.ca q)
  · rw [g 12 (by omega)]; intro q; exact (s 12 (by omega) (by omega)).trans (h.bu q)
  · rw [g13]; intro _ q; cases q
  · rw [g13]; intro _ q; cases q
  · rw [g 14 (by omega), a14]; intro q; cases q
  · rw [g 6 (by omega), g 12 (by omega), g13]; exact ⟨fun _ => ⟨h6, h12⟩, fun _ => rfl⟩
theorem GL.told (h : GL W vals n xs x z L y t t' b w) (h13 : L.getD 13 false = true) : GL W vals n xs x z (L.setIfInBounds 14 true) (up y 4 t') t t' b w := by
  have g : ∀ j, j ≠ 14 → (L.setIfInBounds 14 true).getD j false = L.getD j false := fun j hj => by rw [getD_set (by rw [h.ls]; omega), if_neg hj]
  have s : ∀ j, j < 15 → j ≠ 14 → up y 4 t' (sSL j) = y (sSL j) := fun j hj hn => up_ne _ _ _ (sSL_ne (i := 14) (by omega) hj hn)
  refine ⟨by simp [h.ls], h.keepsl (i := 14) (by omega) _ (fun q => absurd rfl q.2.2.2), h.bel, ?_, ?_, ?_, ?_, ?_, fun _ => up_at _ _ _, ?_⟩
  · rw [g 6 (by omega)]; intro q; exact (s 6 (by omega) (by omega)).trans (h.ca q)
  · rw [g 12 (by omega)]; intro q; exact (s 12 (by omega) (by omega)).trans (h.bu q)
  · rw [g 6 (by omega), g 13 (by omega)]; exact h.row
  · rw [g 12 (by omega), g 13 (by omega), g 6 (by omega)]; exact h.lit
  · rw [g 13 (by omega)]; intro q; exact ⟨(s 13 (by omega) (by omega)).trans (h.ap q).1, (h.ap q).2⟩
  · rw [g 13 (by omega), g 6 (by omega), g 12 (by omega)]; exact ⟨h.cl.1, fun _ => h13⟩
end
theorem regionSL {Q : Exit → Act → World → Prop} {ops : Array Oper} (ho : looks ops OSL) (hd : waits ops DSL = true) (hor : (List.range ops.size).all (fun i => ((ops[i]?).map fun o => o.after.all fun e => !Region.binds .any e || decide (e.on < i)).getD true) = true) {id : Nat} {a0 : Act} {W : World} (hm : Try.prog.follows .mixedOrders = true) (hsz0 : 33 < a0.tmps.size)
    {P g0 c0 g1 c1 g2 c2 g3 c3 g4 c4 T len k n : Nat} {f x z : Int} {xs : List Value} (hn : n ≤ 100000) (e2 : a0.eval (.tmp 2) = .pointer (some ⟨P, 0, none⟩)) (e5 : a0.eval (.tmp 5) = .int .i64 (k : Int)) (p0 : W.cell? ⟨P, 0, none⟩ = some (.slice (some ⟨g0, 0, none⟩) len c0)) (p1 : W.cell? ⟨P, 1, none⟩ = some (.slice (some ⟨g1, 0, none⟩) T c1)) (p2 : W.cell? ⟨P, 2, none⟩ = some (.slice (some ⟨g2, 0, none⟩) T c2)) (p3 : W.cell? ⟨P, 3, none⟩ = some (.slice (some ⟨g3, 0, none⟩) T c3)) (p4 : W.cell? ⟨P, 4, none⟩ = some (.slice (some ⟨g4, 0, none⟩) T c4)) (hk : (k : Int) < (T : Int)) (hf : W.cell? ⟨g1, k, none⟩ = some (.int .i64 f)) (hx : W.cell? ⟨g3, k * 2, none⟩ = some (.int .i64 x)) (hz : W.cell? ⟨g3, k * 2 + 1, none⟩ = some (.int .i64 z))
    (hc : ∀ v, Below W.heap.size W v → Calls Try.prog 13 #[.agg #[.slice (some ⟨g0, 0, none⟩) len c0, .slice (some ⟨g1, 0, none⟩) T c1, .slice (some ⟨g2, 0, none⟩) T c2, .slice (some ⟨g3, 0, none⟩) T c3, .slice (some ⟨g4, 0, none⟩) T c4], .int .i64 f] v fun e w' => ∃ u, e = .returned u ∧ w'.ownsRow v.heap.size 22 2 u n xs ∧ Below v.heap.size v w')
    (hQ : ∀ y t' w', y 4 = t' → w'.ownsRow W.heap.size 22 2 t' (n + 1) (xs ++ [.int .i64 x, .int .i64 z]) → Below W.heap.size W w' → Q .normal (tA a0 lSL y) w') : (Code.region id ops true).wp Try.prog Q a0 W := by
  have hsz : ops.size = 15 := looks_size ho
  refine wp_region_slots hm lSL (fun L y w' => ∃ t t' b, GL W (fun i => ([.agg #[.slice (some ⟨g0, 0, none⟩) len c0, .slice (some ⟨g1, 0, none⟩) T c1, .slice (some ⟨g2, 0, none⟩) T c2, .slice (some ⟨g3, 0, none⟩) T c3, .slice (some ⟨g4, 0, none⟩) T c4], .pointer (some ⟨P, 1, none⟩), .slice (some ⟨g1, 0, none⟩) T c1, .int .i64 (k : Int), .pointer (some ⟨g1, k, none⟩), .int .i64 f, undef, .pointer (some ⟨P, 3, none⟩), .slice (some ⟨g3, 0, none⟩) T c3, .int .i64 (k : Int), .pointer (some ⟨g3, k * 2, none⟩), .agg #[.int .i64 x, .int .i64 z], undef, undef, undef] : List Value).getD i undef) n xs x z L y t t' b w') ?_ ?_ ?_
  · have f : ∀ i, (Array.replicate ops.size false).getD i false = false := fun i => by
      rw [Array.getD_eq_getD_getElem?, Array.getElem?_replicate]
      split <;> rfl
    refine ⟨undef, undef, 0, by simp [hsz], fun i _ _ _ _ _ h => ?_, Below.drew (Below.refl _ _), fun h => ?_, fun h => ?_, fun h => ?_, fun h => ?_, fun h => ?_, fun h => ?_, fun h => ?_, fun h => ?_⟩ <;> (rw [f] at h; cases h)
  · rintro L y w' ⟨t, t', b, hG⟩ i hi
    have hi15 : i < 15 := by
      obtain ⟨_, o, q, _⟩ := mem_ready.1 hi
      have := (Array.getElem?_eq_some_iff.1 q).1
      omega
    have hB := hG.bel
    have cc : ∀ {p : Addr} {u : Value}, W.cell? p = some u → w'.cell? p = some u := fun hu => (hB.cell (block_lt hu)).trans hu
    have put : ∀ {s : Nat} (hs : s ∈ lSL) (u : Value), (tA a0 lSL y).put (some s) u = tA a0 lSL (up y s u) := fun hs u => tA_put a0 lSL y hs u
    have sv : ∀ {s : Nat} (hs : s ∈ lSL), s < a0.tmps.size → (tA a0 lSL y).eval (.tmp s) = y s := fun hs h => tA_slot a0 lSL y hs h
    have o2 : (tA a0 lSL y).eval (.tmp 2) = .pointer (some ⟨P, 0, none⟩) := (tA_other a0 lSL y (by decide)).trans e2
    have o5 : (tA a0 lSL y).eval (.tmp 5) = .int .i64 (k : Int) := (tA_other a0 lSL y (by decide)).trans e5
    rcases (show i = 0 ∨ i = 1 ∨ i = 2 ∨ i = 3 ∨ i = 4 ∨ i = 5 ∨ i = 6 ∨ i = 7 ∨ i = 8 ∨ i = 9 ∨ i = 10 ∨ i = 11 ∨ i = 12 ∨ i = 13 ∨ i = 14 by omega) with rfl | rfl | rfl | rfl | rfl | rfl | rfl | rfl | rfl | rfl | rfl | rfl | rfl | rfl | rfl
    · obtain ⟨o, h1, h2, h3, h4⟩ := looks_at ho (i := 0) rfl
      have hw := waits_at hd hi (l := DSL.getD 0 []) rfl
      refine wpOp_value h1 h4 (ex_l30 h2 o2 (cc p0) (cc p1) (cc p2) (cc p3) (cc p4)) ?_
      rw [h3]
      exact ⟨_, put (by decide) _, t, t', b, hG.pure (i := 0) (by omega) (by omega) (by omega) (by omega) (by omega)⟩
    · obtain ⟨o, h1, h2, h3, h4⟩ := looks_at ho (i := 1) rfl
      have hw := waits_at hd hi (l := DSL.getD 1 []) rfl
      refine wpOp_value h1 h4 (ex_fa h2 (by omega) o2) ?_
      rw [h3]
      exact ⟨_, put (by decide) _, t, t', b, hG.pure (i := 1) (by omega) (by omega) (by omega) (by omega) (by omega)⟩
    · obtain ⟨o, h1, h2, h3, h4⟩ := looks_at ho (i := 2) rfl
      have hw := waits_at hd hi (l := DSL.getD 2 []) rfl
      have D1 : (tA a0 lSL y).eval (.tmp 21) = .pointer (some ⟨P, 1, none⟩) := (sv (by decide) (by omega)).trans (hG.sl 1 (by omega) (by omega) (by omega) (by omega) (by omega) (hw.2 1 (by decide)))
      refine wpOp_value h1 h4 (ex_ld h2 (by omega) D1 (cc p1)) ?_
      rw [h3]
      exact ⟨_, put (by decide) _, t, t', b, hG.pure (i := 2) (by omega) (by omega) (by omega) (by omega) (by omega)⟩
    · obtain ⟨o, h1, h2, h3, h4⟩ := looks_at ho (i := 3) rfl
      have hw := waits_at hd hi (l := DSL.getD 3 []) rfl
      refine wpOp_value h1 h4 (ex_mv h2 o5) ?_
      rw [h3]
      exact ⟨_, put (by decide) _, t, t', b, hG.pure (i := 3) (by omega) (by omega) (by omega) (by omega) (by omega)⟩
    · obtain ⟨o, h1, h2, h3, h4⟩ := looks_at ho (i := 4) rfl
      have hw := waits_at hd hi (l := DSL.getD 4 []) rfl
      have D2 : (tA a0 lSL y).eval (.tmp 22) = .slice (some ⟨g1, 0, none⟩) T c1 := (sv (by decide) (by omega)).trans (hG.sl 2 (by omega) (by omega) (by omega) (by omega) (by omega) (hw.2 2 (by decide)))
      have D3 : (tA a0 lSL y).eval (.tmp 23) = .int .i64 (k : Int) := (sv (by decide) (by omega)).trans (hG.sl 3 (by omega) (by omega) (by omega) (by omega) (by omega) (hw.2 3 (by decide)))
      refine wpOp_value h1 h4 (ex_i26 h2 D2 D3 hk) ?_
      rw [h3]
      exact ⟨_, put (by decide) _, t, t', b, hG.pure (i := 4) (by omega) (by omega) (by omega) (by omega) (by omega)⟩
    · obtain ⟨o, h1, h2, h3, h4⟩ := looks_at ho (i := 5) rfl
      have hw := waits_at hd hi (l := DSL.getD 5 []) rfl
      have D4 : (tA a0 lSL y).eval (.tmp 24) = .pointer (some ⟨g1, k, none⟩) := (sv (by decide) (by omega)).trans (hG.sl 4 (by omega) (by omega) (by omega) (by omega) (by omega) (hw.2 4 (by decide)))
      refine wpOp_value h1 h4 (ex_ly h2 (by omega) D4 (cc hf)) ?_
      rw [h3]
      exact ⟨_, put (by decide) _, t, t', b, hG.pure (i := 5) (by omega) (by omega) (by omega) (by omega) (by omega)⟩
    · obtain ⟨o, h1, h2, h3, h4⟩ := looks_at ho (i := 6) rfl
      have hw := waits_at hd hi (l := DSL.getD 6 []) rfl
      have D0 : (tA a0 lSL y).eval (.tmp 20) = .agg #[.slice (some ⟨g0, 0, none⟩) len c0, .slice (some ⟨g1, 0, none⟩) T c1, .slice (some ⟨g2, 0, none⟩) T c2, .slice (some ⟨g3, 0, none⟩) T c3, .slice (some ⟨g4, 0, none⟩) T c4] := (sv (by decide) (by omega)).trans (hG.sl 0 (by omega) (by omega) (by omega) (by omega) (by omega) (hw.2 0 (by decide)))
      have D5 : (tA a0 lSL y).eval (.tmp 25) = .int .i64 f := (sv (by decide) (by omega)).trans (hG.sl 5 (by omega) (by omega) (by omega) (by omega) (by omega) (hw.2 5 (by decide)))
      refine wpOp_call h1 h4 (ex_c2 h2 rfl D0 D5 rfl) ((hc w' hB).mono fun e w'' ⟨u, he, ho', hb'⟩ => ⟨u, he, ?_⟩)
      rw [h3]
      exact ⟨_, put (by decide) _, u, t', b, hG.called (not_yet (by rw [hG.ls]; omega) hw.1) ho' hb'⟩
    · obtain ⟨o, h1, h2, h3, h4⟩ := looks_at ho (i := 7) rfl
      have hw := waits_at hd hi (l := DSL.getD 7 []) rfl
      refine wpOp_value h1 h4 (ex_fa h2 (by omega) o2) ?_
      rw [h3]
      exact ⟨_, put (by decide) _, t, t', b, hG.pure (i := 7) (by omega) (by omega) (by omega) (by omega) (by omega)⟩
    · obtain ⟨o, h1, h2, h3, h4⟩ := looks_at ho (i := 8) rfl
      have hw := waits_at hd hi (l := DSL.getD 8 []) rfl
      have D7 : (tA a0 lSL y).eval (.tmp 27) = .pointer (some ⟨P, 3, none⟩) := (sv (by decide) (by omega)).trans (hG.sl 7 (by omega) (by omega) (by omega) (by omega) (by omega) (hw.2 7 (by decide)))
      refine wpOp_value h1 h4 (ex_ld h2 (by omega) D7 (cc p3)) ?_
      rw [h3]
      exact ⟨_, put (by decide) _, t, t', b, hG.pure (i := 8) (by omega) (by omega) (by omega) (by omega) (by omega)⟩
    · obtain ⟨o, h1, h2, h3, h4⟩ := looks_at ho (i := 9) rfl
      have hw := waits_at hd hi (l := DSL.getD 9 []) rfl
      refine wpOp_value h1 h4 (ex_mv h2 o5) ?_
      rw [h3]
      exact ⟨_, put (by decide) _, t, t', b, hG.pure (i := 9) (by omega) (by omega) (by omega) (by omega) (by omega)⟩
    · obtain ⟨o, h1, h2, h3, h4⟩ := looks_at ho (i := 10) rfl
      have hw := waits_at hd hi (l := DSL.getD 10 []) rfl
      have D8 : (tA a0 lSL y).eval (.tmp 28) = .slice (some ⟨g3, 0, none⟩) T c3 := (sv (by decide) (by omega)).trans (hG.sl 8 (by omega) (by omega) (by omega) (by omega) (by omega) (hw.2 8 (by decide)))
      have D9 : (tA a0 lSL y).eval (.tmp 29) = .int .i64 (k : Int) := (sv (by decide) (by omega)).trans (hG.sl 9 (by omega) (by omega) (by omega) (by omega) (by omega) (hw.2 9 (by decide)))
      refine wpOp_value h1 h4 (ex_i27 h2 D8 D9 hk) ?_
      rw [h3]
      exact ⟨_, put (by decide) _, t, t', b, hG.pure (i := 10) (by omega) (by omega) (by omega) (by omega) (by omega)⟩
    · obtain ⟨o, h1, h2, h3, h4⟩ := looks_at ho (i := 11) rfl
      have hw := waits_at hd hi (l := DSL.getD 11 []) rfl
      have D10 : (tA a0 lSL y).eval (.tmp 30) = .pointer (some ⟨g3, k * 2, none⟩) := (sv (by decide) (by omega)).trans (hG.sl 10 (by omega) (by omega) (by omega) (by omega) (by omega) (hw.2 10 (by decide)))
      refine wpOp_value h1 h4 (ex_l22 h2 D10 (cc hx) (cc hz)) ?_
      rw [h3]
      exact ⟨_, put (by decide) _, t, t', b, hG.pure (i := 11) (by omega) (by omega) (by omega) (by omega) (by omega)⟩
    · obtain ⟨o, h1, h2, h3, h4⟩ := looks_at ho (i := 12) rfl
      have hw := waits_at hd hi (l := DSL.getD 12 []) rfl
      have D11 : (tA a0 lSL y).eval (.tmp 31) = .agg #[.int .i64 x, .int .i64 z] := (sv (by decide) (by omega)).trans (hG.sl 11 (by omega) (by omega) (by omega) (by omega) (by omega) (hw.2 11 (by decide)))
      refine wpOp_value h1 h4 (ex_two h2 D11) ?_
      rw [h3]
      exact ⟨_, put (by decide) _, t, t', _, hG.built (not_yet (by rw [hG.ls]; omega) hw.1)⟩
    · obtain ⟨o, h1, h2, h3, h4⟩ := looks_at ho (i := 13) rfl
      have hw := waits_at hd hi (l := DSL.getD 13 []) rfl
      have D6 : (tA a0 lSL y).eval (.tmp 26) = t := (sv (by decide) (by omega)).trans (hG.ca (hw.2 6 (by decide)))
      have D12 : (tA a0 lSL y).eval (.tmp 32) = .slice (some ⟨b, 0, none⟩) 1 1 := (sv (by decide) (by omega)).trans (hG.bu (hw.2 12 (by decide)))
      obtain ⟨u, w2, q1, q2⟩ := hG.apped (hw.2 6 (by decide)) (hw.2 12 (by decide)) (not_yet (by rw [hG.ls]; omega) hw.1) hn o.type
      refine wpOp_value h1 h4 (ex_app h2 D6 D12 q1) ?_
      rw [h3]
      exact ⟨_, put (by decide) _, t, u, b, q2⟩
    · obtain ⟨o, h1, h2, h3, h4⟩ := looks_at ho (i := 14) rfl
      have hw := waits_at hd hi (l := DSL.getD 14 []) rfl
      have D13 : (tA a0 lSL y).eval (.tmp 33) = t' := (sv (by decide) (by omega)).trans (hG.ap (hw.2 13 (by decide))).1
      refine wpOp_value h1 h4 (eb_as h2 D13) ?_
      rw [h3]
      exact ⟨_, put (by decide) _, t, t', b, hG.told (hw.2 13 (by decide))⟩
  · rintro L y w' ⟨t, t', b, hG⟩ hr
    have al := all_up (by rw [hG.ls, hsz]) hor hr
    exact hQ y t' w' (hG.asg (al 14 (by omega))) (hG.ap (al 13 (by omega))).2 hG.bel

end Go.Proofs.Ytilpooifggofiaa.D
