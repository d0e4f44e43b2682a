/- PROVED: what the document's own SOf answers. CONDITIONS: none beyond each theorem's own. -/
import Derived.Test.YtjageagnclmnjaaGreatDoorB16Sr
import Derived.Test.YtjageagnclmnjaaGreatDoorT46DStep
import Derived.Test.YtjageagnclmnjaaGreatDoorB13Ft
import Derived.Deep.CutRange
import Derived.Lib.Walk
namespace Go.Proofs.YtjageagnclmnjaaGreatDoor.D
set_option maxRecDepth 100000
open Go.RowKit K
set_option linter.unusedVariables false

set_option maxHeartbeats 3200000 in
theorem sof_wrong (r : Ru) (e : Int) (h : wrong r = e) (he : (e != 0) = true) (w : World) :
    Calls Tryz.prog 43 #[.agg #[.int .i64 r.k0, .int .i64 r.k1, .int .i64 r.r, .int .i64 r.m, .int .i64 r.j]] w fun x w' => x = .returned (.tuple #[.agg #[.slice none 0 0, .slice none 0 0, .slice none 0 0, .slice none 0 0, .slice none 0 0], .int .i64 e]) ∧ Below w.heap.size w w' := by
  have hp := pstart_no r e h he
  have X := (Rul.new w _ rfl r.k0 r.k1 r.r r.m r.j).alloc (.cells #[.slice none 0 0, .slice none 0 0, .slice none 0 0, .slice none 0 0, .slice none 0 0] 102)
  have Y := Res.new (w.alloc (.cells #[.int .i64 r.k0, .int .i64 r.k1, .int .i64 r.r, .int .i64 r.m, .int .i64 r.j] 33)) (w.heap.size + 1) (by simp)
  have B : Below w.heap.size w ((w.alloc (.cells #[.int .i64 r.k0, .int .i64 r.k1, .int .i64 r.r, .int .i64 r.m, .int .i64 r.j] 33)).alloc (.cells #[.slice none 0 0, .slice none 0 0, .slice none 0 0, .slice none 0 0, .slice none 0 0] 102)) := balloc (balloc (Below.refl _ _) _) _
  obtain ⟨w0, hw0⟩ : ∃ w0, (w.alloc (.cells #[.int .i64 r.k0, .int .i64 r.k1, .int .i64 r.r, .int .i64 r.m, .int .i64 r.j] 33)).alloc (.cells #[.slice none 0 0, .slice none 0 0, .slice none 0 0, .slice none 0 0, .slice none 0 0] 102) = w0 := ⟨_, rfl⟩
  rw [hw0] at X Y B
  obtain ⟨x0, x1, x2, x3, x4, _, _, _, _, _⟩ := id X
  clear h
  go_enter Tryz.func43, Tryz.ntmps43
  go_wp2_with (go_at_call 68; refine (hp _).mono ?_; rintro e w1 ⟨rfl, b⟩; clear hp; replace Y := Y.kept b; replace B := bthen B b; replace Y := Y.kept (balloc (Below.refl _ _) (.cells #[.int .i64 0, .int .i64 0, .int .i64 0, .int .i64 0, .int .i64 0, .int .i64 0, .int .i64 0, .int .i64 0, .int .i64 0, .int .i64 0, .int .i64 0, .int .i64 0, .int .i64 0, .int .i64 0] 45)); replace B := balloc B (.cells #[.int .i64 0, .int .i64 0, .int .i64 0, .int .i64 0, .int .i64 0, .int .i64 0, .int .i64 0, .int .i64 0, .int .i64 0, .int .i64 0, .int .i64 0, .int .i64 0, .int .i64 0, .int .i64 0] 45); obtain ⟨y0, g0⟩ := Y.c 0 (by omega); obtain ⟨y1, g1⟩ := Y.c 1 (by omega); obtain ⟨y2, g2⟩ := Y.c 2 (by omega); obtain ⟨y3, g3⟩ := Y.c 3 (by omega); obtain ⟨y4, g4⟩ := Y.c 4 (by omega))
  have Z := Y.fiv.all (fun _ => .slice none 0 0)
  obtain ⟨z0, _⟩ := Z.c 0 (by omega)
  obtain ⟨z1, _⟩ := Z.c 1 (by omega)
  obtain ⟨z2, _⟩ := Z.c 2 (by omega)
  obtain ⟨z3, _⟩ := Z.c 3 (by omega)
  obtain ⟨z4, _⟩ := Z.c 4 (by omega)
  simp only [put5] at z0 z1 z2 z3 z4
  refine bodyPost_ret (v := .tuple #[.agg #[.slice none 0 0, .slice none 0 0, .slice none 0 0, .slice none 0 0, .slice none 0 0], .int .i64 e]) (by simp [results, Tryz.results43, go_sem, z0, z1, z2, z3, z4]) rfl ⟨rfl, below_put5 (C := w.heap.size + 1) B (by omega) (fun _ => .slice none 0 0)⟩


/-- how it begins -/
theorem So.start (r : Ru) (w w1 : World) (h0 : Rul w1 w.heap.size r.k0 r.k1 r.r r.m r.j) (h1 : Res w1 (w.heap.size + 1)) (hB : Below w.heap.size w w1) (S : Nat) :
    So w r (w1.heap.size + 1) (kk w (w1.heap.size + 1)) (up (fun _ => .slice none 0 0) 0 (.slice (some ⟨w1.heap.size, 0, none⟩) 1 1)) (fn r 0) (fx r 0) ((w1.alloc (.cells #[.int .i64 r.k0, .int .i64 1, .int .i64 (-1), .int .i64 0, .int .i64 0, .int .i64 0, .int .i64 r.k1, .int .i64 1, .int .i64 (-1), .int .i64 0, .int .i64 0, .int .i64 0, .int .i64 0, .int .i64 0] 45)).alloc (.cells #[.slice (some ⟨w1.heap.size, 0, none⟩) 1 1, .slice none 0 0, .slice none 0 0, .slice none 0 0, .slice none 0 0] 102)) := by
  have b1 : Below w1.heap.size w1 (w1.alloc (.cells #[.int .i64 r.k0, .int .i64 1, .int .i64 (-1), .int .i64 0, .int .i64 0, .int .i64 0, .int .i64 r.k1, .int .i64 1, .int .i64 (-1), .int .i64 0, .int .i64 0, .int .i64 0, .int .i64 0, .int .i64 0] 45)) := balloc (Below.refl _ _) _
  have b2 := balloc b1 (.cells #[.slice (some ⟨w1.heap.size, 0, none⟩) 1 1, .slice none 0 0, .slice none 0 0, .slice none 0 0, .slice none 0 0] 102)
  have s1 : (w1.alloc (.cells #[.int .i64 r.k0, .int .i64 1, .int .i64 (-1), .int .i64 0, .int .i64 0, .int .i64 0, .int .i64 r.k1, .int .i64 1, .int .i64 (-1), .int .i64 0, .int .i64 0, .int .i64 0, .int .i64 0, .int .i64 0] 45)).heap.size = w1.heap.size + 1 := by simp
  have l1 : w.heap.size + 1 < w1.heap.size := block_lt (h1.c 0 (by omega)).1
  refine ⟨h0.kept b2, h1.kept b2, ⟨fun c hc => ?_⟩, ⟨fun c hc => ?_, fun c d hc hd hne g hg => ?_, fun g hg => ⟨?_, fun c hc => ?_⟩, by have := hB.size; simp; omega⟩, fun g hg => hg, by omega, bthen hB b2⟩
  · rw [World.cell?_alloc_at _ _ _ _ (by exact s1.symm), World.frozen?_alloc_at _ _ _ _ (by exact s1.symm)]
    rcases (show c = 0 ∨ c = 1 ∨ c = 2 ∨ c = 3 ∨ c = 4 by omega) with rfl | rfl | rfl | rfl | rfl <;> exact ⟨rfl, rfl⟩
  · by_cases e : c = 0
    · subst e
      rw [up_at]
      have := World.ownsRow_lit (base := w.heap.size) (e := 45) (size := 14) w1 #[.int .i64 r.k0, .int .i64 1, .int .i64 (-1), .int .i64 0, .int .i64 0, .int .i64 0, .int .i64 r.k1, .int .i64 1, .int .i64 (-1), .int .i64 0, .int .i64 0, .int .i64 0, .int .i64 0, .int .i64 0] 1 (by have := hB.size; omega) (by unfold maxLen; omega) rfl
      exact own_same this fun g hg => by
        have e : g = w1.heap.size := by simpa [Value.ownBlock] using hg.symm
        subst e
        exact (balloc (Below.refl (w1.alloc (.cells #[.int .i64 r.k0, .int .i64 1, .int .i64 (-1), .int .i64 0, .int .i64 0, .int .i64 0, .int .i64 r.k1, .int .i64 1, .int .i64 (-1), .int .i64 0, .int .i64 0, .int .i64 0, .int .i64 0, .int .i64 0] 45)).heap.size (w1.alloc (.cells #[.int .i64 r.k0, .int .i64 1, .int .i64 (-1), .int .i64 0, .int .i64 0, .int .i64 0, .int .i64 r.k1, .int .i64 1, .int .i64 (-1), .int .i64 0, .int .i64 0, .int .i64 0, .int .i64 0, .int .i64 0] 45))) _).block _ (by simp)
    · rw [up_ne _ _ _ e]
      have h2 : fn r 0 c = 0 := by
        rcases (show c = 1 ∨ c = 2 ∨ c = 3 ∨ c = 4 by omega) with rfl | rfl | rfl | rfl <;> rfl
      have h3 : fx r 0 c = [] := by
        obtain ⟨_, q1, q2, q3, q4⟩ := fx_zero r
        rcases (show c = 1 ∨ c = 2 ∨ c = 3 ∨ c = 4 by omega) with rfl | rfl | rfl | rfl <;> assumption
      rw [h2, h3]; exact World.ownsRow_nil _ _ _ _
  · by_cases e : c = 0
    · rw [up_ne _ _ _ (by omega)]; simp [Value.ownBlock]
    · rw [up_ne _ _ _ e] at hg; simp [Value.ownBlock] at hg
  · unfold kk at hg; simp; omega
  · by_cases e : c = 0
    · subst e; rw [up_at]
      unfold kk at hg
      simp [Value.ownBlock]; omega
    · rw [up_ne _ _ _ e]; simp [Value.ownBlock]

set_option maxRecDepth 100000 in
set_option maxHeartbeats 12800000 in
theorem sof_any (r : Ru) (h : wrong r = 0) (w : World) :
    Calls Tryz.prog 43 #[.agg #[.int .i64 r.k0, .int .i64 r.k1, .int .i64 r.r, .int .i64 r.m, .int .i64 r.j]] w fun x w' => ((∃ T v, Dn r T ∧ x = .returned (.tuple #[.agg #[v 0, v 1, v 2, v 3, v 4], .int .i64 0]) ∧ Fam w.heap.size (fun _ => False) v (fn r T) (fx r T) w') ∨ (Fl r ∧ x = .returned (.tuple #[.agg #[.slice none 0 0, .slice none 0 0, .slice none 0 0, .slice none 0 0, .slice none 0 0], .int .i64 4]))) ∧ Below w.heap.size w w' := by
  have hp := pstart_yes r h
  have hkr := wrong_ok.1 h
  have hrg := hkr.2
  obtain ⟨hjc, hj4, he16⟩ := jj_cast hrg
  have hjr := hrg.2.2
  have X := (Rul.new w _ rfl r.k0 r.k1 r.r r.m r.j).alloc (.cells #[.slice none 0 0, .slice none 0 0, .slice none 0 0, .slice none 0 0, .slice none 0 0] 102)
  have Y := Res.new (w.alloc (.cells #[.int .i64 r.k0, .int .i64 r.k1, .int .i64 r.r, .int .i64 r.m, .int .i64 r.j] 33)) (w.heap.size + 1) (by simp)
  have B : Below w.heap.size w ((w.alloc (.cells #[.int .i64 r.k0, .int .i64 r.k1, .int .i64 r.r, .int .i64 r.m, .int .i64 r.j] 33)).alloc (.cells #[.slice none 0 0, .slice none 0 0, .slice none 0 0, .slice none 0 0, .slice none 0 0] 102)) := balloc (balloc (Below.refl _ _) _) _
  obtain ⟨w0, hw0⟩ : ∃ w0, (w.alloc (.cells #[.int .i64 r.k0, .int .i64 r.k1, .int .i64 r.r, .int .i64 r.m, .int .i64 r.j] 33)).alloc (.cells #[.slice none 0 0, .slice none 0 0, .slice none 0 0, .slice none 0 0, .slice none 0 0] 102) = w0 := ⟨_, rfl⟩
  rw [hw0] at X Y B
  obtain ⟨x0, x1, x2, x3, x4, _, _, _, _, _⟩ := id X
  have hkk : Hid (kinds r ∧ ranges r) := hkr
  replace hjc : Hid _ := hjc
  clear h hkr
  go_enter Tryz.func43, Tryz.ntmps43
  go_wp2_with (go_at_call 68; refine (hp _).mono ?_; rintro e w1 ⟨rfl, b⟩; clear hp x0 x1 x2 x3 x4; replace X := (X.kept b).alloc (.cells #[.int .i64 r.k0, .int .i64 1, .int .i64 (-1), .int .i64 0, .int .i64 0, .int .i64 0, .int .i64 r.k1, .int .i64 1, .int .i64 (-1), .int .i64 0, .int .i64 0, .int .i64 0, .int .i64 0, .int .i64 0] 45); replace Y := Y.kept (balloc b (.cells #[.int .i64 r.k0, .int .i64 1, .int .i64 (-1), .int .i64 0, .int .i64 0, .int .i64 0, .int .i64 r.k1, .int .i64 1, .int .i64 (-1), .int .i64 0, .int .i64 0, .int .i64 0, .int .i64 0, .int .i64 0] 45)); replace B := balloc (bthen B b) (.cells #[.int .i64 r.k0, .int .i64 1, .int .i64 (-1), .int .i64 0, .int .i64 0, .int .i64 0, .int .i64 r.k1, .int .i64 1, .int .i64 (-1), .int .i64 0, .int .i64 0, .int .i64 0, .int .i64 0, .int .i64 0] 45); have St := Sta.new w1 w1.heap.size rfl r.k0 1 (-1) 0 0 0 r.k1 1 (-1) 0 0 0 0 0; obtain ⟨q0, q1, q2, q3, q4, q5, q6, q7, q8, q9, q10, q11, q12, q13, _⟩ := id St)
  have hst := So.start r w (w1.alloc (.cells #[.int .i64 r.k0, .int .i64 1, .int .i64 (-1), .int .i64 0, .int .i64 0, .int .i64 0, .int .i64 r.k1, .int .i64 1, .int .i64 (-1), .int .i64 0, .int .i64 0, .int .i64 0, .int .i64 0, .int .i64 0] 45)) X Y B 0
  rw [show (w1.alloc (.cells #[.int .i64 r.k0, .int .i64 1, .int .i64 (-1), .int .i64 0, .int .i64 0, .int .i64 0, .int .i64 r.k1, .int .i64 1, .int .i64 (-1), .int .i64 0, .int .i64 0, .int .i64 0, .int .i64 0, .int .i64 0] 45)).heap.size = w1.heap.size + 1 by simp] at hst
  clear q0 q1 q2 q3 q4 q5 q6 q7 q8 q9 q10 q11 q12 q13 St X Y B
  obtain ⟨C, hC⟩ : ∃ C, w1.heap.size + 1 + 1 = C := ⟨_, rfl⟩
  rw [hC] at hst ⊢
  generalize ((w1.alloc (.cells #[.int .i64 r.k0, .int .i64 1, .int .i64 (-1), .int .i64 0, .int .i64 0, .int .i64 0, .int .i64 r.k1, .int .i64 1, .int .i64 (-1), .int .i64 0, .int .i64 0, .int .i64 0, .int .i64 0, .int .i64 0] 45)).alloc (.cells #[.int .i64 r.k0, .int .i64 1, .int .i64 (-1), .int .i64 0, .int .i64 0, .int .i64 0, .int .i64 r.k1, .int .i64 1, .int .i64 (-1), .int .i64 0, .int .i64 0, .int .i64 0, .int .i64 0, .int .i64 0] 45)).alloc (.cells #[.slice (some ⟨w1.heap.size + 1, 0, none⟩) 1 1, .slice none 0 0, .slice none 0 0, .slice none 0 0, .slice none 0 0] 102) = W0 at hst ⊢
  clear hC
  go_loopw [7] (fun i wr => ∃ (k : Nat) (v : Nat → Value), i = .int .i64 k ∧ k ≤ (xp r (k * ee r)).1.length ∧ (xp r (k * ee r)).1.length ≤ 300 ∧ Live (sp r) (ee r) (K.start r) (k * ee r) ∧ So w r C (kk w C) v (fn r (k * ee r)) (fx r (k * ee r)) wr) (fun i _ => 301 - (intOf i).toNat)
  case atStart => exact ⟨0, _, rfl, Nat.zero_le _, by rw [Nat.zero_mul]; show 1 ≤ 300; omega, by rw [Nat.zero_mul]; exact fun t ht => by omega, by rw [Nat.zero_mul]; exact hst⟩
  case round =>
    obtain ⟨k, v, rfl, hkl, hk3, hLv, hS⟩ := hrel
    clear hst
    obtain ⟨g0, cp0, hv0, hcp0⟩ : ∃ g cap, v 0 = .slice (some ⟨g, 0, none⟩) (xp r (k * ee r)).1.length cap ∧ (xp r (k * ee r)).1.length ≤ cap := by
      have hf := ex_first hLv
      obtain ⟨g, cap, e, hc, _, _⟩ := own_state (hS.fam.own 0 (by omega)) (k := 0) hf
      exact ⟨g, cap, e, hc⟩
    obtain ⟨p0, pf0⟩ := hS.fiv.c 0 (by omega)
    rw [hv0] at p0
    by_cases hlt : k < (xp r (k * ee r)).1.length
    · have hkI : (k : Int) < ((xp r (k * ee r)).1.length : Int) := by omega
      obtain ⟨_, _, _, _, x4, _⟩ := id hS.rul
      obtain ⟨q, hq⟩ : ∃ q, jj r = q := ⟨_, rfl⟩
      obtain ⟨E, hE⟩ : ∃ E, ee r = E := ⟨_, rfl⟩
      have hjq : r.j + 1 = (q : Int) := by rw [← hq]; exact hjc.out.symm
      have hqE : (q : Int) * (q : Int) = (E : Int) := by rw [← hE, ← hq]; unfold ee; rw [Int.natCast_mul]
      have hE16 : E ≤ 16 := by rw [← hE]; exact he16
      have hq4 : q ≤ 4 := by rw [← hq]; exact hj4
      have hst : ∃ (nn : Nat) (v : Nat → Value), nn ≤ E ∧ (0 : Int) = nn ∧ (xp r (k * E + nn)).1.length ≤ 300 ∧ Live (sp r) E (K.start r) (k * E + nn) ∧ k < (xp r (k * E + nn)).1.length ∧ So w r C (kk w C) v (fn r (k * E + nn)) (fx r (k * E + nn)) wr := ⟨0, v, Nat.zero_le _, rfl, by rw [Nat.add_zero, ← hE]; exact hk3, by rw [Nat.add_zero, ← hE]; exact hLv, by rw [Nat.add_zero, ← hE]; exact hlt, by rw [Nat.add_zero, ← hE]; exact hS⟩
      replace hq : Hid _ := hq
      replace hE : Hid _ := hE
      replace hst : Hid _ := hst
      clear hLv hS hlt hcp0 he16 hj4
      generalize (xp r (k * ee r)).1.length = len at *
      go_wp2
      clear x4 p0 pf0 hv0
      go_loopw [42] (fun i wr => ∃ (nn : Nat) (v : Nat → Value), nn ≤ E ∧ i = .int .i64 nn ∧ (xp r (k * E + nn)).1.length ≤ 300 ∧ Live (sp r) E (K.start r) (k * E + nn) ∧ k < (xp r (k * E + nn)).1.length ∧ So w r C (kk w C) v (fn r (k * E + nn)) (fx r (k * E + nn)) wr) (fun i _ => E - (intOf i).toNat)
      case atStart =>
        obtain ⟨nn, v, a1, a2, a3⟩ := hst.out
        exact ⟨nn, v, a1, by rw [← a2], a3⟩
      case round =>
        obtain ⟨nn, v, hnE, rfl, hl3, hL, hk, hS⟩ := hrel
        clear hst
        by_cases hn : nn < E
        · have hnI : (nn : Int) < (E : Int) := by omega
          obtain ⟨x, hx⟩ : ∃ x, (xp r (k * E + nn)).1[k]? = some x := ⟨_, List.getElem?_eq_getElem hk⟩
          obtain ⟨t, ht⟩ : ∃ t, k * E + nn = t := ⟨_, rfl⟩
          have htE : t / ee r = k ∧ t % ee r = nn := by
            rw [hE.out, ← ht, Nat.mul_comm]
            exact ⟨by rw [Nat.mul_add_div (by omega), Nat.div_eq_of_lt hn]; omega, by rw [Nat.mul_add_mod, Nat.mod_eq_of_lt hn]⟩
          rw [ht] at hl3 hL hk hS hx
          obtain ⟨lx, hlx⟩ : ∃ lx, nn / q = lx := ⟨_, rfl⟩
          obtain ⟨ly, hly⟩ : ∃ ly, nn % q = ly := ⟨_, rfl⟩
          have q1 : 1 ≤ q := by rw [← hq.out]; exact jj_pos r
          have hd1 : (nn : Int).tdiv (q : Int) = (lx : Int) := by rw [Int.tdiv_eq_ediv_of_nonneg (by omega), ← hlx]; omega
          have hd2 : (nn : Int).tmod (q : Int) = (ly : Int) := by rw [Int.tmod_eq_emod_of_nonneg (by omega), ← hly]; omega
          have hd3 : (nn : Int) / (q : Int) = (lx : Int) := by rw [← hlx]; omega
          have hd4 : (nn : Int) % (q : Int) = (ly : Int) := by rw [← hly]; omega
          have hw1 : IntKind.i64.wrap (q : Int) = (q : Int) := wrapIn (by omega)
          have hq0 : ((q : Int) == 0) = false := beq_eq_false_iff_ne.2 (by omega)
          have hq1 : ¬ (q : Int) = 0 := by omega
          have hq2 : ¬ q = 0 := by omega
          have hsx : pright r x := xp_right hkk.out t x (List.mem_of_getElem? hx)
          have hlat : lates r (lx : Int) (ly : Int) := by
            have := sp_lates hkk.out.2 (n := nn) (by rw [hE.out]; exact hn)
            rw [hq.out, hlx, hly] at this; exact this
          obtain ⟨y, hy⟩ : ∃ y, K.step r x (lx : Int) (ly : Int) = y := ⟨_, rfl⟩
          have hsp : sp r x nn = y := by unfold sp; rw [hq.out, hlx, hly, hy]
          obtain ⟨rd, hrd⟩ : ∃ rd, K.round r x = rd := ⟨_, rfl⟩
          have h20 := pstep_yes r x (lx : Int) (ly : Int) hsx hlat
          rw [hy, hrd] at h20
          have lx3 : lx ≤ 16 := by rw [← hlx]; exact Nat.le_trans (Nat.div_le_self _ _) (by omega)
          have ly3 : ly ≤ 16 := by rw [← hly]; exact Nat.le_trans (Nat.mod_le _ _) (by omega)
          obtain ⟨_, _, _, _, x4, _⟩ := id hS.rul
          have S2 : So w r C (fun g => kk w C g ∨ g = wr.heap.size) v (fn r t) (fx r t) (wr.alloc (.cells #[.int .i64 (lx : Int), .int .i64 (ly : Int)] 31)).drew := (hS.alloc (.cells #[.int .i64 (lx : Int), .int .i64 (ly : Int)] 31)).kept (Below.drew (Below.refl _ _))
          have p0 : (wr.alloc (.cells #[.int .i64 (lx : Int), .int .i64 (ly : Int)] 31)).drew.cell? ⟨wr.heap.size, 0, none⟩ = some (.int .i64 (lx : Int)) := by show (wr.alloc _).cell? _ = _; rw [World.cell?_alloc_at _ _ _ _ rfl]; rfl
          have p1 : (wr.alloc (.cells #[.int .i64 (lx : Int), .int .i64 (ly : Int)] 31)).drew.cell? ⟨wr.heap.size, 1, none⟩ = some (.int .i64 (ly : Int)) := by show (wr.alloc _).cell? _ = _; rw [World.cell?_alloc_at _ _ _ _ rfl]; rfl
          have hLt : wr.heap.size < (wr.alloc (.cells #[.int .i64 (lx : Int), .int .i64 (ly : Int)] 31)).drew.heap.size := by show wr.heap.size < (wr.alloc _).heap.size; simp
          have hCw : C < wr.heap.size := (hS.fam.kb C (.inr (.inr rfl))).1
          obtain ⟨g0, cp0, hv0, hcp0, hln, hsat⟩ := own_state (S2.fam.own 0 (by omega)) (k := k) hx
          have hw2 : IntKind.i64.wrap (lx : Int) = (lx : Int) := wrapIn (by omega)
          have hw3 : IntKind.i64.wrap (ly : Int) = (ly : Int) := wrapIn (by omega)
          have hw4 : IntKind.i64.wrap (r.j + 1) = (q : Int) := by rw [hjq]; exact hw1
          replace ht : Hid _ := ht
          replace hlx : Hid _ := hlx
          replace hly : Hid _ := hly
          replace htE : Hid _ := htE
          replace hrd : Hid _ := hrd
          replace hsp : Hid _ := hsp
          replace hy : Hid _ := hy
          clear hS
          go_wp2
          first | (go_region_held3 (fun w' => w'.cell? ⟨w.heap.size, 4, none⟩ = some (.int .i64 r.j)) (first | exact x4 | simp [*, World.cell?_alloc_some]) (fail)) | fail
          obtain ⟨W2, hW2⟩ : ∃ W2, (wr.alloc (.cells #[.int .i64 (lx : Int), .int .i64 (ly : Int)] 31)).drew = W2 := ⟨_, rfl⟩
          obtain ⟨Lt, hLte⟩ : ∃ Lt, wr.heap.size = Lt := ⟨_, rfl⟩
          rw [hLte] at S2 p0 p1 hLt hCw ⊢
          rw [hW2] at S2 p0 p1 hLt hsat ⊢
          clear hW2 hLte x4
          have hc0 := (S2.fiv.c 0 (by omega)).1
          rw [hv0] at hc0
          have hkI2 : (k : Int) < ((fn r t 0 : Nat) : Int) := by show (k : Int) < (((xp r t).1.length : Nat) : Int); omega
          go_wp2
          refine region12 (by rfl) (by kernel_rfl) (by kernel_rfl) (by kernel_rfl) (k := k) (by simp) (by rfl) (by rfl) (by rfl) (by rfl) S2.rul hc0 hkI2 hsat p0 p1 h20 ?_
          intro ys Nx Rd W3 b3 hNx hRd hNR sN sR y10 y11
          simp only [tA, l12, sets]
          simp only [List.setIfInBounds_toArray, List.set_cons_succ, List.set_cons_zero, y10, y11]
          generalize ys 56 = u56
          generalize ys 57 = u57
          generalize ys 58 = u58
          generalize ys 59 = u59
          generalize ys 60 = u60
          generalize ys 61 = u61
          generalize ys 62 = u62
          generalize ys 63 = u63
          generalize ys 64 = u64
          generalize ys 65 = u65
          generalize ys 66 = u66
          generalize ys 67 = u67
          generalize ys 12 = u12
          have S3 := S2.add b3 hRd (block_lt sR.c0)
          replace S2 := S2.kept b3
          replace hsat := hsat.kept b3
          have p0' : W3.cell? ⟨Lt, 0, none⟩ = some (.int .i64 (lx : Int)) := (b3.cell (p := ⟨Lt, 0, none⟩) hLt).trans p0
          have p1' : W3.cell? ⟨Lt, 1, none⟩ = some (.int .i64 (ly : Int)) := (b3.cell (p := ⟨Lt, 1, none⟩) hLt).trans p1
          clear p0 p1 hsat hsx hlat hd1 hd2 hd3 hd4 hw1 hw2 hw3 hw4 hq0 hq1 hq2 h20 y10 y11
          obtain ⟨len, hlen⟩ : ∃ len, (xp r t).1.length = len := ⟨_, rfl⟩
          have hc2 := (S2.fiv.c 0 (by omega)).1
          have hv0' : v 0 = .slice (some ⟨g0, 0, none⟩) len cp0 := by rw [hv0, ← hlen]; rfl
          rw [hv0'] at hc2
          have hll : len ≤ 300 := by rw [← hlen]; exact hl3
          have hcp1 : len ≤ cp0 := by rw [← hlen]; exact hcp0
          have hsts : Hid (∀ i, i < len → ∃ s, (xp r t).1[i]? = some s ∧ Sat W3 g0 (i * 14) s) := fun i hi => by
            obtain ⟨s, hs⟩ : ∃ s, (xp r t).1[i]? = some s := ⟨_, List.getElem?_eq_getElem (by omega)⟩
            obtain ⟨g', cp', e', _, _, hsat'⟩ := own_state (S2.fam.own 0 (by omega)) (k := i) hs
            rw [hv0'] at e'
            injection e' with e'
            injection e' with e'
            injection e' with e'
            subst e'
            exact ⟨s, hs, hsat'⟩
          have hNx3 : Nx < W3.heap.size := block_lt sN.c0
          replace hlen : Hid _ := hlen
          clear hc0 hkI2 hcp0 hln hv0
          go_wp2
          clear hc2
          go_loopw [13, 71] (fun tv iv wr => ∃ (i : Nat) (tz : Int), i ≤ len ∧ iv = .int .i64 i ∧ tv = .int .i64 tz ∧ ((tz = -1 ∧ ∀ j, j < i → (xp r t).1[j]? ≠ some y) ∨ ∃ j : Nat, j < i ∧ tz = (j : Int) ∧ (xp r t).1[j]? = some y) ∧ Below W3.heap.size W3 wr) (fun _ iv _ => len - (intOf iv).toNat)
          case atStart => exact ⟨0, -1, Nat.zero_le _, rfl, rfl, .inl ⟨rfl, fun j h => by omega⟩, Below.refl _ _⟩
          case round =>
            obtain ⟨i, tz, hil, rfl, rfl, htz, b4⟩ := hrel
            by_cases hi : i < len
            · obtain ⟨s, hs, hsat⟩ := hsts.out i hi
              replace hsat := hsat.kept b4
              have sN4 := sN.kept b4
              have hiI : (i : Int) < (len : Int) := by omega
              have heq := eqX s y
              obtain ⟨c0, c1, c2, c3, c4, c5, c6, c7, c8, c9, c10, c11, c12, c13⟩ := id hsat
              have sE := Sta.new wr wr.heap.size rfl (s.f0.k) (s.f0.n) (s.f0.b) (s.f0.a) (s.f0.s) (s.f0.q) (s.f1.k) (s.f1.n) (s.f1.b) (s.f1.a) (s.f1.s) (s.f1.q) (s.w0) (s.w1)
              have sN5 := sN4.alloc (.cells #[.int .i64 s.f0.k, .int .i64 s.f0.n, .int .i64 s.f0.b, .int .i64 s.f0.a, .int .i64 s.f0.s, .int .i64 s.f0.q, .int .i64 s.f1.k, .int .i64 s.f1.n, .int .i64 s.f1.b, .int .i64 s.f1.a, .int .i64 s.f1.s, .int .i64 s.f1.q, .int .i64 s.w0, .int .i64 s.w1] 45)
              have b5 := balloc b4 (.cells #[.int .i64 s.f0.k, .int .i64 s.f0.n, .int .i64 s.f0.b, .int .i64 s.f0.a, .int .i64 s.f0.s, .int .i64 s.f0.q, .int .i64 s.f1.k, .int .i64 s.f1.n, .int .i64 s.f1.b, .int .i64 s.f1.a, .int .i64 s.f1.s, .int .i64 s.f1.q, .int .i64 s.w0, .int .i64 s.w1] 45)
              obtain ⟨W5, hW5⟩ : ∃ W5, wr.alloc (.cells #[.int .i64 s.f0.k, .int .i64 s.f0.n, .int .i64 s.f0.b, .int .i64 s.f0.a, .int .i64 s.f0.s, .int .i64 s.f0.q, .int .i64 s.f1.k, .int .i64 s.f1.n, .int .i64 s.f1.b, .int .i64 s.f1.a, .int .i64 s.f1.s, .int .i64 s.f1.q, .int .i64 s.w0, .int .i64 s.w1] 45) = W5 := ⟨_, rfl⟩
              obtain ⟨E5, hE5⟩ : ∃ E5, wr.heap.size = E5 := ⟨_, rfl⟩
              rw [hW5] at sE sN5 b5
              rw [hE5] at sE
              obtain ⟨e0, e1, e2, e3, e4, e5, e6, e7, e8, e9, e10, e11, e12, e13, _⟩ := id sE
              obtain ⟨d0, d1, d2, d3, d4, d5, d6, d7, d8, d9, d10, d11, d12, d13, _⟩ := id sN5
              have htz2 : Hid (((tz = -1 ∧ ∀ j, j < i → (xp r t).1[j]? ≠ some y) ∨ ∃ j : Nat, j < i ∧ tz = (j : Int) ∧ (xp r t).1[j]? = some y)) := htz
              clear htz b4 sN4 hsat
              by_cases hsy : s = y
              · have hdy : decide (s = y) = true := decide_eq_true hsy
                rw [hdy] at heq
                have hnew : (xp r t).1[i]? = some y := by rw [← hsy]; exact hs
                replace hnew : Hid _ := hnew
                clear hs hdy hsy
                go_wp2
                go_roundw
                case rel => exact ⟨i + 1, (i : Int), by omega, by go_num, rfl, .inr ⟨i, by omega, rfl, hnew.out⟩, b5⟩
                case measure => simp [intOf]; omega
              · have hdy : decide (s = y) = false := decide_eq_false hsy
                rw [hdy] at heq
                have hnew : (xp r t).1[i]? ≠ some y := by rw [hs]; intro q; injection q with q; exact hsy q
                replace hnew : Hid _ := hnew
                clear hs hdy hsy
                go_wp2
                go_roundw
                case rel =>
                  refine ⟨i + 1, tz, by omega, by go_num, rfl, ?_, b5⟩
                  rcases htz2.out with ⟨q1, q2⟩ | ⟨j, q1, q2, q3⟩
                  · refine .inl ⟨q1, fun j hj => ?_⟩
                    rcases Nat.lt_succ_iff_lt_or_eq.1 hj with hj | rfl
                    · exact q2 j hj
                    · exact hnew.out
                  · exact .inr ⟨j, by omega, q2, q3⟩
                case measure => simp [intOf]; omega
            · obtain rfl : len = i := by omega
              replace S3 := S3.kept b4
              replace sN := sN.kept b4
              replace sR := sR.kept b4
              replace p0' : wr.cell? ⟨Lt, 0, none⟩ = some (.int .i64 (lx : Int)) := (b4.cell (p := ⟨Lt, 0, none⟩) (block_lt p0')).trans p0'
              replace p1' : wr.cell? ⟨Lt, 1, none⟩ = some (.int .i64 (ly : Int)) := (b4.cell (p := ⟨Lt, 1, none⟩) (block_lt p1')).trans p1'
              have hLt3 : Lt < wr.heap.size := block_lt p0'
              have hRd3 : Rd < wr.heap.size := block_lt sR.c0
              have hNxw : Nx < wr.heap.size := block_lt sN.c0
              clear hsts b4 hNx3
              have hnd : (xp r t).1.Nodup := by
                have := ex_nodup (step := sp r) (E := E) (s0 := K.start r) hL
                rw [← hE.out] at this; exact this
              have hxe : (xp r t).1[t / ee r]? = some x := by rw [htE.out.1]; exact hx
              obtain ⟨fx0, fx1, fx2, fx3, fx4⟩ := fx_succ hxe
              rw [htE.out.2, hsp.out] at fx0 fx2
              rw [htE.out.1] at fx1
              rw [htE.out.2, hq.out, hlx.out, hly.out] at fx3
              rw [hrd.out] at fx4
              have hLC : Lt ≠ C := by omega
              have hRC : Rd ≠ C := by omega
              have hLv1 : Live (sp r) E (K.start r) (t + 1) := fun t' ht' => by
                rcases Nat.lt_succ_iff_lt_or_eq.1 ht' with q | rfl
                · exact hL t' q
                · have hkl3 : k + 1 ≤ (xp r t').1.length := hk
                  have := Nat.mul_le_mul_left E hkl3
                  rw [Nat.mul_add, Nat.mul_one, Nat.mul_comm E k] at this
                  have e := ht.out
                  have e2 : ex (sp r) E (K.start r) t' = xp r t' := by rw [← hE.out]; rfl
                  rw [e2]
                  omega
              have ht1 : k * E + (nn + 1) = t + 1 := by have := ht.out; omega
              have hEx : Live (sp r) E (K.start r) t := hL
              rcases htz with ⟨rfl, hnone⟩ | ⟨j, hj, rfl, hjy⟩
              · have hnm : y ∉ (xp r t).1 := fun q => by
                  obtain ⟨j, hj, e⟩ := List.getElem_of_mem q
                  exact hnone j (by rw [← hlen.out]; exact hj) (by rw [List.getElem?_eq_getElem hj, e])
                have hix : ix (xp r t).1 y = len := by rw [ix_not hnm]; exact hlen.out
                rw [hix] at fx2
                have hnx : (xp r (t + 1)).1 = (xp r t).1 ++ [y] := by rw [fx0]; unfold YtjageagnclmnjaaGreatDoor.nx; rw [if_neg hnm]
                have hc3 := (S3.fiv.c 0 (by omega)).1
                rw [hv0'] at hc3
                by_cases h300 : len = 300
                · have d3 : ((len : Int) == 300) = true := beq_iff_eq.2 (by omega)
                  have hfl : Hid (Fl r) := ⟨t, x, by rw [hE.out]; exact hEx, hxe, by rw [hlen.out]; exact h300, by rw [htE.out.2, hsp.out]; exact hnm⟩
                  have Y := S3.res
                  have Z := Y.fiv.all (fun _ => .slice none 0 0)
                  obtain ⟨y0, g0'⟩ := Y.c 0 (by omega)
                  obtain ⟨y1, g1⟩ := Y.c 1 (by omega)
                  obtain ⟨y2, g2⟩ := Y.c 2 (by omega)
                  obtain ⟨y3, g3⟩ := Y.c 3 (by omega)
                  obtain ⟨y4, g4⟩ := Y.c 4 (by omega)
                  have B6 := S3.below
                  clear fx0 fx1 fx2 fx3 fx4 ht1 hnx hEx hxe hnm hnone hL hx hix S3 hnd hLv1
                  go_wp2
                  obtain ⟨z0, _⟩ := Z.c 0 (by omega)
                  obtain ⟨z1, _⟩ := Z.c 1 (by omega)
                  obtain ⟨z2, _⟩ := Z.c 2 (by omega)
                  obtain ⟨z3, _⟩ := Z.c 3 (by omega)
                  obtain ⟨z4, _⟩ := Z.c 4 (by omega)
                  simp only [put5] at z0 z1 z2 z3 z4
                  refine bodyPost_ret (v := .tuple #[.agg #[.slice none 0 0, .slice none 0 0, .slice none 0 0, .slice none 0 0, .slice none 0 0], .int .i64 4]) (by simp [results, Tryz.results43, go_sem, z0, z1, z2, z3, z4]) rfl ⟨.inr ⟨hfl.out, rfl⟩, below_put5 (C := w.heap.size + 1) B6 (by omega) (fun _ => .slice none 0 0)⟩
                · have d3 : ((len : Int) == 300) = false := beq_eq_false_iff_ne.2 (by omega)
                  obtain ⟨g5, cap5, w5, hr5, c05, f05, S4, oth4⟩ := S3.state y (by show (xp r t).1.length + 1 ≤ _; rw [hlen.out]; omega) 89
                  have hfn : fn r t 0 = len := hlen.out
                  rw [hfn] at hr5 S4 oth4
                  have S5 : So w r C (fun g => (kk w C g ∨ g = Lt) ∨ g = Rd) (up v 0 (.slice (some ⟨g5, 0, none⟩) (len + 1) cap5)) (fun c => if c = 0 then (xp r (t + 1)).1.length else t) (fun c => if c = 0 then flS (xp r (t + 1)).1 else fx r t c) (w5.setCell ⟨C, 0, none⟩ (.slice (some ⟨g5, 0, none⟩) (len + 1) cap5)) := S4.ext fun c hc => by
                    rcases (show c = 0 ∨ c = 1 ∨ c = 2 ∨ c = 3 ∨ c = 4 by omega) with rfl | rfl | rfl | rfl | rfl
                    · refine ⟨rfl, ?_, ?_⟩
                      · show (xp r (t + 1)).1.length = len + 1; rw [hnx, List.length_append, hlen.out]; rfl
                      · show flS (xp r (t + 1)).1 = flS (xp r t).1 ++ cS y; rw [hnx, flS_append]; simp [flS]
                    all_goals exact ⟨rfl, rfl, rfl⟩
                  have hl1 : (xp r (t + 1)).1.length ≤ 300 := by rw [hnx, List.length_append, hlen.out]; show len + 1 ≤ 300; omega
                  have hk1 : k < (xp r (t + 1)).1.length := by rw [hnx, List.length_append]; omega
                  have ht3 : t ≤ 5000 := by
                    have h1 := ht.out
                    have h2 : k * E ≤ 300 * 16 := Nat.mul_le_mul (by rw [hlen.out] at hk; omega) hE16
                    omega
                  have oL := oth4 Lt (.inl (.inr rfl)) hLC
                  have oR := oth4 Rd (.inr rfl) hRC
                  have c30 := (S3.fiv.c 0 (by omega)).1
                  obtain ⟨n0, n1, n2, n3, n4, n5, n6, n7, n8, n9, n10, n11, n12, n13, _⟩ := id sN
                  replace hL : Hid _ := hL
                  replace hx : Hid _ := hx
                  replace hnx : Hid _ := hnx
                  replace fx0 : Hid _ := fx0
                  replace hv0' : Hid _ := hv0'
                  clear S3 S4 hnd hxe hnm hix hnone h300
                  go_upto_region 24 with (fail)
                  clear hc3
                  refine region24 (by rfl) (by simp) (by simp) (by rfl) (by rfl) c30 sN hr5 c05 f05 ?_
                  intro zs
                  simp only [tA, l24, sets]
                  simp only [List.setIfInBounds_toArray, List.set_cons_succ, List.set_cons_zero]
                  generalize zs 91 = z91
                  generalize zs 92 = z92
                  generalize zs 93 = z93
                  generalize zs 94 = z94
                  generalize zs 95 = z95
                  generalize zs 96 = z96
                  replace p0' : (w5.setCell ⟨C, 0, none⟩ (.slice (some ⟨g5, 0, none⟩) (len + 1) cap5)).cell? ⟨Lt, 0, none⟩ = some (.int .i64 (lx : Int)) := (World.cell?_of_block (a := ⟨Lt, 0, none⟩) oL).trans p0'
                  replace p1' : (w5.setCell ⟨C, 0, none⟩ (.slice (some ⟨g5, 0, none⟩) (len + 1) cap5)).cell? ⟨Lt, 1, none⟩ = some (.int .i64 (ly : Int)) := (World.cell?_of_block (a := ⟨Lt, 1, none⟩) oL).trans p1'
                  replace sR := rnd_block sR oR
                  clear hr5 c05 f05 oth4 oL oR c30
                  go_wp2
                  refine region25 (by rfl) (by kernel_rfl) (by kernel_rfl) (by kernel_rfl) (B0 := w.heap.size) (B1 := w.heap.size) (wB := w) (k := k) (rr := rd) (lx := (lx : Int)) (ly := (ly : Int)) (by simp) (by rfl) (by rfl) (by rfl) (by rfl) (by rfl) S5.fam S5.fiv (.inl (.inl (.inr (.inr rfl)))) (.inl (.inr rfl)) (.inr rfl) hLC hRC p0' p1' sR (fun c h1 h5 => by
                    have h0 : ¬ c = 0 := by omega
                    simp only [if_neg h0]; omega) S5.below (by have := S5.cc; have := S5.below.size; omega) ?_
                  intro ys v' W6 hF6 hC6 oth6 bel6
                  have S6 := S5.stay hF6 hC6 oth6 bel6
                  have S7 := So.step (K' := fun g => (kk w C g ∨ g = Lt) ∨ g = Rd) (fun g q => .inl (.inl q)) (S6.ext fun c hc => ⟨rfl, by by_cases h0 : c = 0 <;> simp [h0], by by_cases h0 : c = 0 <;> simp [h0]⟩) fx1 fx2 fx3 fx4
                  rw [← ht1] at S7 hl1 hk1 hLv1
                  have hend : Hid (∃ (nn' : Nat) (v2 : Nat → Value), nn' ≤ E ∧ ((nn : Int) + 1) = (nn' : Int) ∧ (xp r (k * E + nn')).1.length ≤ 300 ∧ Live (sp r) E (K.start r) (k * E + nn') ∧ k < (xp r (k * E + nn')).1.length ∧ So w r C (kk w C) v2 (fn r (k * E + nn')) (fx r (k * E + nn')) W6) := ⟨nn + 1, _, by omega, by omega, hl1, hLv1, hk1, S7⟩
                  simp only [tA, l25, sets]
                  simp only [List.setIfInBounds_toArray, List.set_cons_succ, List.set_cons_zero]
                  generalize ys 97 = u97
                  generalize ys 98 = u98
                  generalize ys 99 = u99
                  generalize ys 100 = u100
                  generalize ys 101 = u101
                  generalize ys 102 = u102
                  generalize ys 103 = u103
                  generalize ys 104 = u104
                  generalize ys 105 = u105
                  generalize ys 106 = u106
                  generalize ys 107 = u107
                  generalize ys 108 = u108
                  generalize ys 109 = u109
                  generalize ys 110 = u110
                  generalize ys 111 = u111
                  generalize ys 112 = u112
                  generalize ys 113 = u113
                  generalize ys 114 = u114
                  generalize ys 115 = u115
                  generalize ys 116 = u116
                  generalize ys 117 = u117
                  generalize ys 118 = u118
                  generalize ys 119 = u119
                  generalize ys 120 = u120
                  clear S5 S6 S7 hF6 hC6 oth6 bel6 hl1 hk1 hLv1 fx0 fx1 fx2 fx3 fx4 ht1 hnx hEx p0' p1' sN sR hLC hRC
                  go_wp2
                  go_roundw
                  case rel =>
                    obtain ⟨nn', v2, a1, a2, a3⟩ := hend.out
                    exact ⟨nn', v2, a1, by rw [← a2], a3⟩
                  case measure => simp [intOf]; omega
              · have hmem : y ∈ (xp r t).1 := List.mem_of_getElem? hjy
                have hix : ix (xp r t).1 y = j := ix_at hnd hjy
                rw [hix] at fx2
                have hnx : (xp r (t + 1)).1 = (xp r t).1 := by rw [fx0]; unfold YtjageagnclmnjaaGreatDoor.nx; rw [if_pos hmem]
                have S5 : So w r C (fun g => (kk w C g ∨ g = Lt) ∨ g = Rd) v (fun c => if c = 0 then (xp r (t + 1)).1.length else t) (fun c => if c = 0 then flS (xp r (t + 1)).1 else fx r t c) wr := S3.ext fun c hc => by
                  rcases (show c = 0 ∨ c = 1 ∨ c = 2 ∨ c = 3 ∨ c = 4 by omega) with rfl | rfl | rfl | rfl | rfl
                  · refine ⟨rfl, ?_, ?_⟩
                    · show (xp r (t + 1)).1.length = (xp r t).1.length; rw [hnx]
                    · show flS (xp r (t + 1)).1 = flS (xp r t).1; rw [hnx]
                  all_goals exact ⟨rfl, rfl, rfl⟩
                have hl1 : (xp r (t + 1)).1.length ≤ 300 := by rw [hnx]; exact hl3
                have hk1 : k < (xp r (t + 1)).1.length := by rw [hnx]; exact hk
                have dj : decide ((j : Int) < 0) = false := decide_eq_false (by omega)
                have ht3 : t ≤ 5000 := by
                  have h1 := ht.out
                  have h2 : k * E ≤ 300 * 16 := Nat.mul_le_mul (by omega) hE16
                  omega
                replace hL : Hid _ := hL
                replace hx : Hid _ := hx
                clear S3 hnd hxe hjy hmem hix
                go_wp2
                refine region25 (by rfl) (by kernel_rfl) (by kernel_rfl) (by kernel_rfl) (B0 := w.heap.size) (B1 := w.heap.size) (wB := w) (k := k) (rr := rd) (lx := (lx : Int)) (ly := (ly : Int)) (by simp) (by rfl) (by rfl) (by rfl) (by rfl) (by rfl) S5.fam S5.fiv (.inl (.inl (.inr (.inr rfl)))) (.inl (.inr rfl)) (.inr rfl) hLC hRC p0' p1' sR (fun c h1 h5 => by
                  have h0 : ¬ c = 0 := by omega
                  simp only [if_neg h0]; omega) S5.below (by have := S5.cc; have := S5.below.size; omega) ?_
                intro ys v' W6 hF6 hC6 oth6 bel6
                have S6 := S5.stay hF6 hC6 oth6 bel6
                have S7 := So.step (K' := fun g => (kk w C g ∨ g = Lt) ∨ g = Rd) (fun g q => .inl (.inl q)) (S6.ext fun c hc => ⟨rfl, by by_cases h0 : c = 0 <;> simp [h0], by by_cases h0 : c = 0 <;> simp [h0]⟩) fx1 fx2 fx3 fx4
                rw [← ht1] at S7 hl1 hk1 hLv1
                have hend : Hid (∃ (nn' : Nat) (v2 : Nat → Value), nn' ≤ E ∧ ((nn : Int) + 1) = (nn' : Int) ∧ (xp r (k * E + nn')).1.length ≤ 300 ∧ Live (sp r) E (K.start r) (k * E + nn') ∧ k < (xp r (k * E + nn')).1.length ∧ So w r C (kk w C) v2 (fn r (k * E + nn')) (fx r (k * E + nn')) W6) := ⟨nn + 1, _, by omega, by omega, hl1, hLv1, hk1, S7⟩
                simp only [tA, l25, sets]
                simp only [List.setIfInBounds_toArray, List.set_cons_succ, List.set_cons_zero]
                generalize ys 97 = u97
                generalize ys 98 = u98
                generalize ys 99 = u99
                generalize ys 100 = u100
                generalize ys 101 = u101
                generalize ys 102 = u102
                generalize ys 103 = u103
                generalize ys 104 = u104
                generalize ys 105 = u105
                generalize ys 106 = u106
                generalize ys 107 = u107
                generalize ys 108 = u108
                generalize ys 109 = u109
                generalize ys 110 = u110
                generalize ys 111 = u111
                generalize ys 112 = u112
                generalize ys 113 = u113
                generalize ys 114 = u114
                generalize ys 115 = u115
                generalize ys 116 = u116
                generalize ys 117 = u117
                generalize ys 118 = u118
                generalize ys 119 = u119
                generalize ys 120 = u120
                clear S5 S6 S7 hF6 hC6 oth6 bel6 hl1 hk1 hLv1 fx0 fx1 fx2 fx3 fx4 ht1 hnx hEx p0' p1' sN sR hLC hRC
                go_wp2
                go_roundw
                case rel =>
                  obtain ⟨nn', v2, a1, a2, a3⟩ := hend.out
                  exact ⟨nn', v2, a1, by rw [← a2], a3⟩
                case measure => simp [intOf]; omega
        · have hnn : nn = E := by omega
          have hnI : ¬ (nn : Int) < (E : Int) := by omega
          have hm1 : k * E + nn = (k + 1) * ee r := by rw [hE.out, Nat.add_mul, Nat.one_mul, hnn]
          rw [hm1] at hl3 hL hk hS
          have hk300 : k ≤ 300 := by omega
          have hend : Hid (∃ (k' : Nat) (v2 : Nat → Value), ((k : Int) + 1) = (k' : Int) ∧ k' ≤ (xp r (k' * ee r)).1.length ∧ (xp r (k' * ee r)).1.length ≤ 300 ∧ Live (sp r) (ee r) (K.start r) (k' * ee r) ∧ So w r C (kk w C) v2 (fn r (k' * ee r)) (fx r (k' * ee r)) wr) := ⟨k + 1, v, by omega, hk, hl3, by rw [show Live (sp r) (ee r) = Live (sp r) E by rw [hE.out]]; exact hL, hS⟩
          have hw5 : IntKind.i64.wrap ((k : Int) + 1) = (k : Int) + 1 := wrapIn (by omega)
          clear hl3 hL hk hS hm1
          go_wp2
          go_roundw
          case rel =>
            obtain ⟨k', v2, a2, a3⟩ := hend.out
            exact ⟨k', v2, by rw [← a2], a3⟩
          case measure => simp [intOf]; omega
    · have hdec : ¬ (k : Int) < ((xp r (k * ee r)).1.length : Int) := by omega
      have hkl2 : k = (xp r (k * ee r)).1.length := by omega
      have hdn : Hid (Dn r (k * ee r)) := ⟨hLv, by rw [← hkl2, Nat.mul_comm], hk3⟩
      have hsl : ∀ c, c < 5 → ∃ o n cp, v c = .slice o n cp := fun c hc => by
        obtain ⟨_, ⟨e, _⟩ | ⟨g, cap, cur, e, _⟩⟩ := hS.fam.own c hc
        · exact ⟨none, 0, 0, e⟩
        · exact ⟨some ⟨g, 0, none⟩, _, cap, e⟩
      obtain ⟨o1, m1, c1, e1⟩ := hsl 1 (by omega)
      obtain ⟨o2, m2, c2, e2⟩ := hsl 2 (by omega)
      obtain ⟨o3, m3, c3, e3⟩ := hsl 3 (by omega)
      obtain ⟨o4, m4, c4, e4⟩ := hsl 4 (by omega)
      have p1 := (hS.fiv.c 1 (by omega)).1
      have p2 := (hS.fiv.c 2 (by omega)).1
      have p3 := (hS.fiv.c 3 (by omega)).1
      have p4 := (hS.fiv.c 4 (by omega)).1
      rw [e1] at p1
      rw [e2] at p2
      rw [e3] at p3
      rw [e4] at p4
      have Y := hS.res
      have hCg : C ≠ w.heap.size + 1 := by have := hS.cc; omega
      have hCl : C < wr.heap.size := block_lt p1
      have Z := Y.fiv.all v
      have hK : kk w C (w.heap.size + 1) := .inr (.inl rfl)
      have F5 := ((((((hS.fam.put (p := ⟨w.heap.size + 1, 0, none⟩) hK (v 0)).put (p := ⟨w.heap.size + 1, 1, none⟩) hK (v 1)).put (p := ⟨w.heap.size + 1, 2, none⟩) hK (v 2)).put (p := ⟨w.heap.size + 1, 3, none⟩) hK (v 3)).put (p := ⟨w.heap.size + 1, 4, none⟩) hK (v 4)).less (K' := fun _ => False) (fun _ q => q.elim))
      have B6 := below_put5 (C := w.heap.size + 1) hS.below (by omega) v
      obtain ⟨y0, g0'⟩ := Y.c 0 (by omega)
      obtain ⟨y1, g1⟩ := Y.c 1 (by omega)
      obtain ⟨y2, g2⟩ := Y.c 2 (by omega)
      obtain ⟨y3, g3⟩ := Y.c 3 (by omega)
      obtain ⟨y4, g4⟩ := Y.c 4 (by omega)
      obtain ⟨z0, _⟩ := Z.c 0 (by omega)
      obtain ⟨z1, _⟩ := Z.c 1 (by omega)
      obtain ⟨z2, _⟩ := Z.c 2 (by omega)
      obtain ⟨z3, _⟩ := Z.c 3 (by omega)
      obtain ⟨z4, _⟩ := Z.c 4 (by omega)
      have hfin : Hid (∃ W5, W5 = put5 wr (w.heap.size + 1) v ∧ Fam w.heap.size (fun _ => False) v (fn r (k * ee r)) (fx r (k * ee r)) W5 ∧ Below w.heap.size w W5) := ⟨_, rfl, F5, B6⟩
      simp only [put5] at z0 z1 z2 z3 z4
      rw [hv0, e1, e2, e3, e4] at z0 z1 z2 z3 z4
      have hE5 : Hid (v 0 = .slice (some ⟨g0, 0, none⟩) (xp r (k * ee r)).1.length cp0 ∧ v 1 = .slice o1 m1 c1 ∧ v 2 = .slice o2 m2 c2 ∧ v 3 = .slice o3 m3 c3 ∧ v 4 = .slice o4 m4 c4) := ⟨hv0, e1, e2, e3, e4⟩
      clear hS Y Z F5 B6 hv0 e1 e2 e3 e4 hsl hLv hkl2 hkl hk3 hcp0
      generalize (xp r (k * ee r)).1.length = len at *
      go_wp2
      obtain ⟨W5, hW5, a1, a2⟩ := hfin.out
      obtain ⟨b0, b1, b2, b3, b4⟩ := hE5.out
      refine bodyPost_ret (v := .tuple #[.agg #[v 0, v 1, v 2, v 3, v 4], .int .i64 0]) (by rw [b0, b1, b2, b3, b4]; simp [results, Tryz.results43, go_sem, z0, z1, z2, z3, z4]) rfl ⟨.inl ⟨k * ee r, hdn.out, v, rfl, ?_⟩, ?_⟩
      · have := a1; rw [hW5] at this; simp only [put5] at this; rw [b0, b1, b2, b3, b4] at this; exact this
      · have := a2; rw [hW5] at this; simp only [put5] at this; rw [b0, b1, b2, b3, b4] at this; exact this
end Go.Proofs.YtjageagnclmnjaaGreatDoor.D
