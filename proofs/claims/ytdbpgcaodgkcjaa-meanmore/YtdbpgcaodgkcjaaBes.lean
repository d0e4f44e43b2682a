/- PROVED: what mean.Best and mean.Greatest answer. CONDITIONS: none beyond each theorem's own. -/
import Derived.Test.YtdbpgcaodgkcjaaBk
import Derived.Test.YtdbpgcaodgkcjaaSt
import Derived.Test.YtdbpgcaodgkcjaaLf
import Derived.Test.YtdbpgcaodgkcjaaTold
namespace Go.Proofs.Ytdbpgcaodgkcjaa
open Go.RowKit
set_option linter.unusedVariables false

set_option maxHeartbeats 800000 in
theorem best_wrong : BWrong := by
  intro N a cap L hl hg w hE
  have hw := fun v h => wrong_any N a cap L v h hl
  rw [gwr_no hg] at hw
  have B : Below w.heap.size w (w.alloc (.cells #[.int .i64 N, .slice a L.length cap] 24)) := balloc (Below.refl _ _) _
  have E := hE.kept B
  have K := Gb.new w N a L.length cap
  obtain ⟨w0, hw0⟩ : ∃ w0, w.alloc (.cells #[.int .i64 N, .slice a L.length cap] 24) = w0 := ⟨_, rfl⟩
  rw [hw0] at B E K
  obtain ⟨g0, g1⟩ := id K
  generalize L.length = m at *
  clear hE hg
  go_enter Try.func9, Try.ntmps9
  go_wp2_with (go_at_call 15; refine (hw _ E).mono ?_; rintro e w1 ⟨rfl, b1⟩; clear hw; replace B := bthen B b1)
  refine bodyPost_ret (v := .tuple #[.slice none 0 0, .int .i64 2]) (by simp [results, Try.results9, go_sem]) rfl ⟨rfl, B⟩

set_option maxHeartbeats 1600000 in
/-- what Best does with a right graph -/
theorem best_of (n : Nat) (es : List Eg) (hG : Gph n es) (a : Option Addr) (cap m : Nat) (hm : es.length = m) (w : World) (hE : GRow w a es) :
    Calls Try.prog 9 #[.agg #[.int .i64 n, .slice a m cap]] w fun e w' => (∃ (N : Int) (s : Int × Int), Stp es n n N s ∧ ((N = -1 ∧ e = .returned (.tuple #[.slice none 0 0, .int .i64 3])) ∨
      ∃ v y G cc i j, v < n ∧ N = (v : Int) ∧ tb es n v = some y ∧ e = .returned (.tuple #[.slice (some ⟨G, j, none⟩) (i - j) (cc - j), .int .i64 0]) ∧ j < i ∧ i ≤ n ∧ i ≤ cc ∧ bn es n v i = bn es n v j ∧ Cat w' G j (i - j) (fun t => (br es n v (i - 1 - t) : Int)))) ∧ Below w.heap.size w w' := by
  have hw : Hid (∀ v, GRow v a es → Calls Try.prog 15 #[.agg #[.int .i64 n, .slice a m cap]] v fun e w' => e = .returned (.int .i64 0) ∧ Below v.heap.size v w') := fun v h => wrong_yes n es hG a cap m hm v h
  have hv : Hid (∀ v, GRow v a es → Calls Try.prog 20 #[.agg #[.int .i64 n, .slice a m cap]] v fun e w' => ∃ g c O, e = .returned (.slice (some ⟨g, 0, none⟩) (n + 1 : Nat) c) ∧ Tbl w' g c n O es ∧ Below v.heap.size v w') := fun v h => heaviest_any n es hG a cap m hm v h
  obtain ⟨N1, hN1⟩ : ∃ N1, N1 = n + 1 := ⟨_, rfl⟩
  rw [← hN1] at hv
  have hs : Hid (∀ g c O v, Tbl v g c n O es → Calls Try.prog 21 #[.slice (some ⟨g, 0, none⟩) N1 c] v fun e w' => ∃ (N : Int) (m : Int × Int), e = .returned (.int .i64 N) ∧ Stp es n n N m ∧ Below v.heap.size v w') := fun g c O v h => steepest_any n es hG g c O N1 hN1 v h
  have hgo : Hid (∀ g c O (u : Nat) (y : Int × Nat), u < n → tb es n u = some y → ∀ v, GRow v a es → Tbl v g c n O es → Calls Try.prog 22 #[.agg #[.int .i64 n, .slice a m cap], .slice (some ⟨g, 0, none⟩) N1 c, .int .i64 u] v fun e w' => ∃ G cc i j, e = .returned (.slice (some ⟨G, j, none⟩) (i - j) (cc - j)) ∧ j < i ∧ i ≤ n ∧ i ≤ cc ∧ bn es n u i = bn es n u j ∧ Cat w' G j (i - j) (fun t => (br es n u (i - 1 - t) : Int)) ∧ Below v.heap.size v w') := fun g c O u y hu hy v h1 h2 => gone18_any n es hG g c O N1 hN1 u hu y hy a cap m hm v h1 h2
  have B : Below w.heap.size w (w.alloc (.cells #[.int .i64 n, .slice a m cap] 24)) := balloc (Below.refl _ _) _
  have E := hE.kept B
  have K := Gb.new w n a m cap
  obtain ⟨w0, hw0⟩ : ∃ w0, w.alloc (.cells #[.int .i64 n, .slice a m cap] 24) = w0 := ⟨_, rfl⟩
  rw [hw0] at B E K
  obtain ⟨g0, g1⟩ := id K
  replace hN1 : Hid _ := hN1
  clear hE hG hm
  go_enter Try.func9, Try.ntmps9
  go_wp2_with (first
    | (go_at_call 15; refine (hw.out _ E).mono ?_; rintro e w1 ⟨rfl, bb⟩; clear hw; replace E := E.kept bb; replace K := K.kept bb; replace B := bthen B bb; clear g0 g1 bb; obtain ⟨g0, g1⟩ := id K)
    | (go_at_call 20; refine (hv.out _ E).mono ?_; rintro e w2 ⟨g, c, O, rfl, T, bb⟩; clear hv; replace E := E.kept bb; replace K := K.kept bb; replace B := bthen B bb; clear g0 g1 bb; obtain ⟨g0, g1⟩ := id K)
    | (go_at_call 21; refine (hs.out g c O _ T).mono ?_; rintro e w3 ⟨N, s, rfl, hS, bb⟩; clear hs; replace E := E.kept bb; replace K := K.kept bb; replace T := T.kept bb; replace B := bthen B bb; clear g0 g1 bb; obtain ⟨g0, g1⟩ := id K; generalize hbb : (N == -1) = bq))
  · have hb : bq = true := by assumption
    rw [hb] at hbb
    have hN : N = -1 := beq_iff_eq.1 hbb
    refine bodyPost_ret (v := .tuple #[.slice none 0 0, .int .i64 3]) (by simp [results, Try.results9, go_sem]) rfl ⟨⟨N, s, hS, .inl ⟨hN, rfl⟩⟩, B⟩
  · have hb : bq = false := by assumption
    rw [hb] at hbb
    have hN : N ≠ -1 := beq_eq_false_iff_ne.1 hbb
    obtain ⟨u, hu, rfl, hL, _⟩ := hS.yes hN
    obtain ⟨y, hy⟩ := hL.in
    refine (hgo.out g c O u y hu hy _ E T).mono ?_
    rintro e w4 ⟨G, cc, i, j, rfl, h1, h2, h3, h4, h5, bb⟩
    replace B := bthen B bb
    clear hgo hL bb
    go_wp2
    refine bodyPost_ret (v := .tuple #[.slice (some ⟨G, j, none⟩) (i - j) (cc - j), .int .i64 0]) (by simp [results, Try.results9, go_sem]) rfl ⟨⟨_, s, hS, .inr ⟨u, y, G, cc, i, j, hu, rfl, hy, rfl, h1, h2, h3, h4, h5⟩⟩, B⟩

theorem best_none : BNone := by
  intro n es hG a cap m hm hc w hE
  refine (best_of n es hG a cap m hm w hE).mono ?_
  rintro e w' ⟨⟨N, s, hS, ⟨_, he⟩ | ⟨v, y, G, cc, i, j, hv, _, hy, _⟩⟩, B⟩
  · exact ⟨he, B⟩
  · rw [tb_none hG.inn hc hv] at hy; cases hy

theorem best_some : BSome := by
  intro n es hG a cap m hm p q q1 qn hb hL w hE
  refine (best_of n es hG a cap m hm w hE).mono ?_
  rintro e w' ⟨⟨N, s, hS, h⟩, B⟩
  obtain ⟨v, y, hv, hN, hy, hge⟩ := hS.karp hG.inn hG.wgt hL
  rcases h with ⟨hn, _⟩ | ⟨v', y', G, cc, i, j, hv', hN', hy', he, h1, h2, h3, h4, h5⟩
  · omega
  · obtain rfl : v = v' := by omega
    rw [hy] at hy'; injection hy' with hy'; subst hy'
    obtain ⟨r1, r2, r3⟩ := back_round hL hy hge h1 h2 h4
    exact ⟨G, j, i - j, cc - j, fun t => br es n v (i - 1 - t), he, ⟨by omega, by omega, r1, r2, r3⟩, by omega, h5, B⟩

set_option maxHeartbeats 800000 in
theorem greatest_wrong : GWrong := by
  intro N a cap L hl hg w hE
  have hw : Hid (∀ v, ERow v a L → Calls Try.prog 9 #[.agg #[.int .i64 N, .slice a L.length cap]] v fun e w' => e = .returned (.tuple #[.slice none 0 0, .int .i64 2]) ∧ Below v.heap.size v w') := fun v h => best_wrong N a cap L hl hg v h
  have B : Below w.heap.size w ((w.alloc (.cells #[.int .i64 N, .slice a L.length cap] 24)).alloc (.cells #[.int .i64 0, .int .i64 0] 26)) := balloc (balloc (Below.refl _ _) _) _
  have E := hE.kept B
  have K := (Gb.new w N a L.length cap).alloc (.cells #[.int .i64 0, .int .i64 0] 26)
  have F := Fr.new (w.alloc (.cells #[.int .i64 N, .slice a L.length cap] 24)) (w.heap.size + 1) (by simp) 0 0
  obtain ⟨w0, hw0⟩ : ∃ w0, (w.alloc (.cells #[.int .i64 N, .slice a L.length cap] 24)).alloc (.cells #[.int .i64 0, .int .i64 0] 26) = w0 := ⟨_, rfl⟩
  rw [hw0] at B E K F
  obtain ⟨g0, g1⟩ := id K
  generalize L.length = m at *
  clear hE hg
  go_enter Try.func7, Try.ntmps7
  go_wp2_with (go_at_call 9; refine (hw.out _ E).mono ?_; rintro e w1 ⟨rfl, b1⟩; clear hw; replace B := bthen B b1; replace F := F.kept b1; obtain ⟨f0, f1, f2, f3⟩ := id F)
  obtain ⟨z0, z1, _, _⟩ := F.put 0 0
  refine bodyPost_ret (v := .tuple #[.agg #[.int .i64 0, .int .i64 0], .int .i64 2]) (by simp [results, Try.results7, go_sem, z0, z1]) rfl ⟨rfl, put2S B (by omega) _ _⟩

set_option maxHeartbeats 800000 in
theorem greatest_none : GNone := by
  intro n es hG a cap m hm hc w hE
  have hw : Hid (∀ v, GRow v a es → Calls Try.prog 9 #[.agg #[.int .i64 n, .slice a m cap]] v fun e w' => e = .returned (.tuple #[.slice none 0 0, .int .i64 3]) ∧ Below v.heap.size v w') := fun v h => best_none n es hG a cap m hm hc v h
  have B : Below w.heap.size w ((w.alloc (.cells #[.int .i64 n, .slice a m cap] 24)).alloc (.cells #[.int .i64 0, .int .i64 0] 26)) := balloc (balloc (Below.refl _ _) _) _
  have E := hE.kept B
  have K := (Gb.new w n a m cap).alloc (.cells #[.int .i64 0, .int .i64 0] 26)
  have F := Fr.new (w.alloc (.cells #[.int .i64 n, .slice a m cap] 24)) (w.heap.size + 1) (by simp) 0 0
  obtain ⟨w0, hw0⟩ : ∃ w0, (w.alloc (.cells #[.int .i64 n, .slice a m cap] 24)).alloc (.cells #[.int .i64 0, .int .i64 0] 26) = w0 := ⟨_, rfl⟩
  rw [hw0] at B E K F
  obtain ⟨g0, g1⟩ := id K
  clear hE hc hG hm
  go_enter Try.func7, Try.ntmps7
  go_wp2_with (go_at_call 9; refine (hw.out _ E).mono ?_; rintro e w1 ⟨rfl, b1⟩; clear hw; replace B := bthen B b1; replace F := F.kept b1; obtain ⟨f0, f1, f2, f3⟩ := id F)
  obtain ⟨z0, z1, _, _⟩ := F.put 0 0
  refine bodyPost_ret (v := .tuple #[.agg #[.int .i64 0, .int .i64 0], .int .i64 3]) (by simp [results, Try.results7, go_sem, z0, z1]) rfl ⟨rfl, put2S B (by omega) _ _⟩

set_option maxHeartbeats 1600000 in
theorem greatest_some : GSome := by
  intro n es hG a cap m hm p q q1 qn hb hL w hE
  have n3 := hG.n3
  have hw : Hid (∀ v, GRow v a es → Calls Try.prog 9 #[.agg #[.int .i64 n, .slice a m cap]] v fun e w' => ∃ g o k c R, e = .returned (.tuple #[.slice (some ⟨g, o, none⟩) k c, .int .i64 0]) ∧ Rbe n es p q R k ∧ k ≤ c ∧ Cat w' g o k (fun j => (R j : Int)) ∧ Below v.heap.size v w') := fun v h => best_some n es hG a cap m hm p q q1 qn hb hL v h
  have hwe : Hid (∀ (g o k c : Nat) (R : Nat → Nat), Rbe n es p q R k → ∀ v, GRow v a es → Cat v g o k (fun j => (R j : Int)) → Calls Try.prog 13 #[.agg #[.int .i64 n, .slice a m cap], .slice (some ⟨g, o, none⟩) k c] v fun e w' => e = .returned (.tuple #[.int .i64 (nsum es R k), .int .i64 0]) ∧ Below v.heap.size v w') := fun g o k c R hR v h hh => by
    refine weigh_n n es hG a cap m hm (some ⟨g, o, none⟩) c k (outs (fun j => (R j : Int)) k) (outs_len _ _) (by have := hR.kn; omega) v h hh.row _ _ ?_
    exact wge_wok hG (by have := hR.kn; omega) hR.wok
  have hlo : Hid (∀ (R : Nat → Nat) (k : Nat), Rbe n es p q R k → ∀ v, Calls Try.prog 16 #[.int .i64 (nsum es R k), .int .i64 (k : Int)] v fun e w' => ∃ P Q : Int, e = .returned (.agg #[.int .i64 P, .int .i64 Q]) ∧ Low P Q ∧ P * (q : Int) = p * Q ∧ Below v.heap.size v w') := fun R k hR v => by
    have k1 := hR.k1
    have kn := hR.kn
    have hsr := nsum_range hG.wgt R k fun j hj => (hR.wok j hj).1
    refine (lowest_any (nsum es R k) k v (by omega) (by omega) (by omega) (by omega)).mono ?_
    rintro e w' ⟨rfl, bb⟩
    obtain ⟨hl, he⟩ := low_of (nsum es R k) (k : Int) (by omega)
    refine ⟨_, _, rfl, hl, ?_, bb⟩
    have hj := hR.just
    refine Int.eq_of_mul_eq_mul_right (a := (k : Int)) (by omega) ?_
    show low1 (nsum es R k) k * (q : Int) * (k : Int) = p * low2 (nsum es R k) k * (k : Int)
    have he' : low1 (nsum es R k) k * (k : Int) = nsum es R k * low2 (nsum es R k) k := he
    calc low1 (nsum es R k) k * (q : Int) * (k : Int) = low1 (nsum es R k) k * (k : Int) * (q : Int) := by ac_rfl
      _ = nsum es R k * low2 (nsum es R k) k * (q : Int) := by rw [he']
      _ = (q : Int) * nsum es R k * low2 (nsum es R k) k := by ac_rfl
      _ = p * (k : Int) * low2 (nsum es R k) k := by rw [hj]
      _ = p * low2 (nsum es R k) k * (k : Int) := by ac_rfl
  have B : Below w.heap.size w ((w.alloc (.cells #[.int .i64 n, .slice a m cap] 24)).alloc (.cells #[.int .i64 0, .int .i64 0] 26)) := balloc (balloc (Below.refl _ _) _) _
  have E := hE.kept B
  have K := (Gb.new w n a m cap).alloc (.cells #[.int .i64 0, .int .i64 0] 26)
  have F := Fr.new (w.alloc (.cells #[.int .i64 n, .slice a m cap] 24)) (w.heap.size + 1) (by simp) 0 0
  obtain ⟨w0, hw0⟩ : ∃ w0, (w.alloc (.cells #[.int .i64 n, .slice a m cap] 24)).alloc (.cells #[.int .i64 0, .int .i64 0] 26) = w0 := ⟨_, rfl⟩
  rw [hw0] at B E K F
  obtain ⟨g0, g1⟩ := id K
  clear hE hG hm hL hb q1 qn
  go_enter Try.func7, Try.ntmps7
  go_wp2_with (first
    | (go_at_call 9; refine (hw.out _ E).mono ?_; rintro e w1 ⟨g, o, k, c, R, rfl, hR, hkc, C, bb⟩; clear hw; replace E := E.kept bb; replace K := K.kept bb; replace F := F.kept bb; replace B := bthen B bb; clear g0 g1; obtain ⟨g0, g1⟩ := id K)
    | (go_at_call 13; refine (hwe.out g o k c R hR _ E C).mono ?_; rintro e w2 ⟨rfl, bb⟩; clear hwe; replace F := F.kept bb; replace B := bthen B bb; have h16 := hlo.out R k hR; generalize nsum es R k = S at *)
    | (go_at_call 16; refine (h16 _).mono ?_; rintro e w3 ⟨P, Q, rfl, h1, h2, bb⟩; clear h16; replace F := F.kept bb; replace B := bthen B bb; obtain ⟨f0, f1, f2, f3⟩ := id F))
  obtain ⟨z0, z1, _, _⟩ := F.put P Q
  refine bodyPost_ret (v := .tuple #[.agg #[.int .i64 P, .int .i64 Q], .int .i64 0]) (by simp [results, Try.results7, go_sem, z0, z1]) rfl ⟨P, Q, rfl, h1, h2, put2S B (by omega) _ _⟩

end Go.Proofs.Ytdbpgcaodgkcjaa
