/- PROVED: the law MeanSign, if mean.Greatest, mean.Best and potential.Cycle answer as they should. CONDITIONS: none beyond each theorem's own. -/
import Derived.Test.YtdbpgcaodgkcjaaMAl
import Derived.Test.YtdbpgcaodgkcjaaWr
namespace Go.Proofs.Ytdbpgcaodgkcjaa
open Go.RowKit
set_option linter.unusedVariables false

theorem wrongY (n : Nat) (es : List Eg) (hG : Gph n es) (a : Option Addr) (cap m : Nat) (hm : es.length = m) (w : World) (hE : GRow w a es) :
    Calls Try.prog 15 #[.agg #[.int .i64 n, .slice a m cap]] w fun e w' => e = .returned (.int .i64 0) ∧ Below w.heap.size w w' := by
  have hm4 := hG.m4
  have := wrong_any n a cap (es.map upE) w hE (by rw [List.length_map]; omega)
  rw [gwr_yes (gph_grt hG), List.length_map, hm] at this
  exact this
theorem wrongN (N : Int) (a : Option Addr) (cap : Nat) (L : List Ed) (hl : L.length ≤ 9223372036854775807) (hg : ¬ grt N L) (w : World) (hE : ERow w a L) :
    Calls Try.prog 15 #[.agg #[.int .i64 N, .slice a L.length cap]] w fun e w' => e = .returned (.int .i64 2) ∧ Below w.heap.size w w' := by
  have := wrong_any N a cap L w hE hl
  rw [gwr_no hg] at this
  exact this
/-- potential.Cycle, where a way round weighs more than nothing | where none does | of a wrong graph -/
def CSome : Prop := ∀ (n : Nat) (es : List Eg), Gph n es → ∀ (a : Option Addr) (cap m : Nat), es.length = m → ¬ noPos es → ∀ v, GRow v a es →
  Calls Try.prog 14 #[.agg #[.int .i64 n, .slice a m cap]] v fun e w' => ∃ x k c, e = .returned (.tuple #[.slice x k c, .int .i64 0]) ∧ Below v.heap.size v w'
def CNone : Prop := ∀ (n : Nat) (es : List Eg), Gph n es → ∀ (a : Option Addr) (cap m : Nat), es.length = m → noPos es → ∀ v, GRow v a es →
  Calls Try.prog 14 #[.agg #[.int .i64 n, .slice a m cap]] v fun e w' => e = .returned (.tuple #[.slice none 0 0, .int .i64 3]) ∧ Below v.heap.size v w'
def CWrong : Prop := ∀ (N : Int) (a : Option Addr) (cap : Nat) (L : List Ed), L.length ≤ 9223372036854775807 → ¬ grt N L → ∀ v, ERow v a L →
  Calls Try.prog 14 #[.agg #[.int .i64 N, .slice a L.length cap]] v fun e w' => e = .returned (.tuple #[.slice none 0 0, .int .i64 2]) ∧ Below v.heap.size v w'

set_option maxHeartbeats 3200000 in
theorem sign_w (hGS : GSome) (hGN : GNone) (hGW : GWrong) (hBS : BSome) (hBN : BNone) (hBW : BWrong) (hCS : CSome) (hCN : CNone) (hCW : CWrong) (N : Int) (a : Option Addr) (cap : Nat) (L : List Ed) (w : World) (hE : ERow w a L) (hl : L.length ≤ 9223372036854775807) (hg : ¬ grt N L) :
    Calls Try.prog 5 #[.agg #[.int .i64 N, .slice a L.length cap]] w fun e w' => e = .returned (.bool true) ∧ Below w.heap.size w w' := by
  have k11 : Hid (∀ v : World, True → Calls Try.prog 11 #[] v fun e w' => e = .returned (.bool true) ∧ Below v.heap.size v w') := fun v _ => alive18_any hGS hGN hBS v
  have k7 : Hid (∀ v, ERow v a L → Calls Try.prog 7 #[.agg #[.int .i64 N, .slice a L.length cap]] v fun e w' => e = .returned (.tuple #[.agg #[.int .i64 0, .int .i64 0], .int .i64 2]) ∧ Below v.heap.size v w') := fun v h => hGW N a cap L hl hg v h
  have k14 : Hid (∀ v, ERow v a L → Calls Try.prog 14 #[.agg #[.int .i64 N, .slice a L.length cap]] v fun e w' => e = .returned (.tuple #[.slice none 0 0, .int .i64 2]) ∧ Below v.heap.size v w') := fun v h => hCW N a cap L hl hg v h
  have k15 : Hid (∀ v, ERow v a L → Calls Try.prog 15 #[.agg #[.int .i64 N, .slice a L.length cap]] v fun e w' => e = .returned (.int .i64 2) ∧ Below v.heap.size v w') := fun v h => wrongN N a cap L hl hg v h
  generalize L.length = m at *
  have B : Below w.heap.size w (w.alloc (.cells #[.int .i64 N, .slice a m cap] 24)) := balloc (Below.refl _ _) _
  have E := hE.kept B
  have K := Gb.new w N a m cap
  obtain ⟨w0, hw0⟩ : ∃ w0, w.alloc (.cells #[.int .i64 N, .slice a m cap] 24) = w0 := ⟨_, rfl⟩
  rw [hw0] at B E K
  obtain ⟨g0, g1⟩ := id K
  clear hE hg hGS hGN hGW hBS hBN hBW hCS hCN hCW
  go_enter Try.func5, Try.ntmps5
  go_wp2_with (first
    | (go_at_call 11; refine (k11.out _ trivial).mono ?_; rintro e vk11 ⟨rfl, bb⟩; clear k11; replace E := E.kept bb; replace K := K.kept bb; replace B := bthen B bb; clear g0 g1; obtain ⟨g0, g1⟩ := id K)
    | (go_at_call 7; refine (k7.out _ E).mono ?_; rintro e vk7 ⟨rfl, bb⟩; clear k7; replace E := E.kept bb; replace K := K.kept bb; replace B := bthen B bb; replace E := E.alloc (.cells #[.int .i64 0, .int .i64 0] 26); replace K := K.alloc (.cells #[.int .i64 0, .int .i64 0] 26); replace B := balloc B (.cells #[.int .i64 0, .int .i64 0] 26); clear g0 g1; obtain ⟨g0, g1⟩ := id K)
    | (go_at_call 14; refine (k14.out _ E).mono ?_; rintro e vk14 ⟨rfl, bb⟩; clear k14; replace E := E.kept bb; replace K := K.kept bb; replace B := bthen B bb; clear g0 g1; obtain ⟨g0, g1⟩ := id K)
    | (go_at_call 15; refine (k15.out _ E).mono ?_; rintro e vk15 ⟨rfl, bb⟩; clear k15; replace E := E.kept bb; replace K := K.kept bb; replace B := bthen B bb; clear g0 g1; obtain ⟨g0, g1⟩ := id K))
  go_ret
  exact ⟨rfl, B⟩

set_option maxHeartbeats 3200000 in
theorem sign_n (hGS : GSome) (hGN : GNone) (hGW : GWrong) (hBS : BSome) (hBN : BNone) (hBW : BWrong) (hCS : CSome) (hCN : CNone) (hCW : CWrong) (n : Nat) (es : List Eg) (hG : Gph n es) (hc : ¬ ∃ l, Cyc es l) (a : Option Addr) (cap m : Nat) (hm : es.length = m) (w : World) (hE : GRow w a es) :
    Calls Try.prog 5 #[.agg #[.int .i64 n, .slice a m cap]] w fun e w' => e = .returned (.bool true) ∧ Below w.heap.size w w' := by
  have n3 := hG.n3
  have k11 : Hid (∀ v : World, True → Calls Try.prog 11 #[] v fun e w' => e = .returned (.bool true) ∧ Below v.heap.size v w') := fun v _ => alive18_any hGS hGN hBS v
  have k7 : Hid (∀ v, GRow v a es → Calls Try.prog 7 #[.agg #[.int .i64 n, .slice a m cap]] v fun e w' => e = .returned (.tuple #[.agg #[.int .i64 0, .int .i64 0], .int .i64 3]) ∧ Below v.heap.size v w') := fun v h => hGN n es hG a cap m hm hc v h
  have k14 : Hid (∀ v, GRow v a es → Calls Try.prog 14 #[.agg #[.int .i64 n, .slice a m cap]] v fun e w' => e = .returned (.tuple #[.slice none 0 0, .int .i64 3]) ∧ Below v.heap.size v w') := fun v h => hCN n es hG a cap m hm (none_noPos hc) v h
  have k15 : Hid (∀ v, GRow v a es → Calls Try.prog 15 #[.agg #[.int .i64 n, .slice a m cap]] v fun e w' => e = .returned (.int .i64 0) ∧ Below v.heap.size v w') := fun v h => wrongY n es hG a cap m hm v h
  have B : Below w.heap.size w (w.alloc (.cells #[.int .i64 n, .slice a m cap] 24)) := balloc (Below.refl _ _) _
  have E := hE.kept B
  have K := Gb.new w n a m cap
  obtain ⟨w0, hw0⟩ : ∃ w0, w.alloc (.cells #[.int .i64 n, .slice a m cap] 24) = w0 := ⟨_, rfl⟩
  rw [hw0] at B E K
  obtain ⟨g0, g1⟩ := id K
  clear hE hG hc hm hGS hGN hGW hBS hBN hBW hCS hCN hCW
  go_enter Try.func5, Try.ntmps5
  go_wp2_with (first
    | (go_at_call 11; refine (k11.out _ trivial).mono ?_; rintro e vk11 ⟨rfl, bb⟩; clear k11; replace E := E.kept bb; replace K := K.kept bb; replace B := bthen B bb; clear g0 g1; obtain ⟨g0, g1⟩ := id K)
    | (go_at_call 7; refine (k7.out _ E).mono ?_; rintro e vk7 ⟨rfl, bb⟩; clear k7; replace E := E.kept bb; replace K := K.kept bb; replace B := bthen B bb; replace E := E.alloc (.cells #[.int .i64 0, .int .i64 0] 26); replace K := K.alloc (.cells #[.int .i64 0, .int .i64 0] 26); replace B := balloc B (.cells #[.int .i64 0, .int .i64 0] 26); clear g0 g1; obtain ⟨g0, g1⟩ := id K)
    | (go_at_call 14; refine (k14.out _ E).mono ?_; rintro e vk14 ⟨rfl, bb⟩; clear k14; replace E := E.kept bb; replace K := K.kept bb; replace B := bthen B bb; clear g0 g1; obtain ⟨g0, g1⟩ := id K)
    | (go_at_call 15; refine (k15.out _ E).mono ?_; rintro e vk15 ⟨rfl, bb⟩; clear k15; replace E := E.kept bb; replace K := K.kept bb; replace B := bthen B bb; clear g0 g1; obtain ⟨g0, g1⟩ := id K))
  go_ret
  exact ⟨rfl, B⟩

set_option maxHeartbeats 3200000 in
theorem sign_p (hGS : GSome) (hGN : GNone) (hGW : GWrong) (hBS : BSome) (hBN : BNone) (hBW : BWrong) (hCS : CSome) (hCN : CNone) (hCW : CWrong) (n : Nat) (es : List Eg) (hG : Gph n es) (p : Int) (q : Nat) (q1 : 1 ≤ q) (qn : q ≤ n) (hb : -1048576 * (q : Int) ≤ p ∧ p ≤ 1048576 * (q : Int)) (hL : Lam es p q) (hp : ¬ noPos es) (a : Option Addr) (cap m : Nat) (hm : es.length = m) (w : World) (hE : GRow w a es) :
    Calls Try.prog 5 #[.agg #[.int .i64 n, .slice a m cap]] w fun e w' => e = .returned (.bool true) ∧ Below w.heap.size w w' := by
  have n3 := hG.n3
  have k11 : Hid (∀ v : World, True → Calls Try.prog 11 #[] v fun e w' => e = .returned (.bool true) ∧ Below v.heap.size v w') := fun v _ => alive18_any hGS hGN hBS v
  have k7 : Hid (∀ v, GRow v a es → Calls Try.prog 7 #[.agg #[.int .i64 n, .slice a m cap]] v fun e w' => ∃ P Q : Int, e = .returned (.tuple #[.agg #[.int .i64 P, .int .i64 Q], .int .i64 0]) ∧ Low P Q ∧ P * (q : Int) = p * Q ∧ Below v.heap.size v w') := fun v h => hGS n es hG a cap m hm p q q1 qn hb hL v h
  have k14 : Hid (∀ v, GRow v a es → Calls Try.prog 14 #[.agg #[.int .i64 n, .slice a m cap]] v fun e w' => ∃ x k c, e = .returned (.tuple #[.slice x k c, .int .i64 0]) ∧ Below v.heap.size v w') := fun v h => hCS n es hG a cap m hm hp v h
  have k15 : Hid (∀ v, GRow v a es → Calls Try.prog 15 #[.agg #[.int .i64 n, .slice a m cap]] v fun e w' => e = .returned (.int .i64 0) ∧ Below v.heap.size v w') := fun v h => wrongY n es hG a cap m hm v h
  have hq : Hid (1 ≤ q ∧ 0 < p) := ⟨q1, (lam_sign hL).1 hp⟩
  have B : Below w.heap.size w (w.alloc (.cells #[.int .i64 n, .slice a m cap] 24)) := balloc (Below.refl _ _) _
  have E := hE.kept B
  have K := Gb.new w n a m cap
  obtain ⟨w0, hw0⟩ : ∃ w0, w.alloc (.cells #[.int .i64 n, .slice a m cap] 24) = w0 := ⟨_, rfl⟩
  rw [hw0] at B E K
  obtain ⟨g0, g1⟩ := id K
  clear hE hG hp hm hL hb q1 qn hGS hGN hGW hBS hBN hBW hCS hCN hCW
  go_enter Try.func5, Try.ntmps5
  go_wp2_with (first
    | (go_at_call 11; refine (k11.out _ trivial).mono ?_; rintro e vk11 ⟨rfl, bb⟩; clear k11; replace E := E.kept bb; replace K := K.kept bb; replace B := bthen B bb; clear g0 g1; obtain ⟨g0, g1⟩ := id K)
    | (go_at_call 7; refine (k7.out _ E).mono ?_; rintro e vk7 ⟨P, Q, rfl, hLo, hPq, bb⟩; clear k7; replace E := E.kept bb; replace K := K.kept bb; replace B := bthen B bb; replace E := E.alloc (.cells #[.int .i64 P, .int .i64 Q] 26); replace K := K.alloc (.cells #[.int .i64 P, .int .i64 Q] 26); replace B := balloc B (.cells #[.int .i64 P, .int .i64 Q] 26); have Fq := Fr.new vk7 vk7.heap.size rfl P Q; have ds : decide (0 < P) = true := decide_eq_true ((low_sign hLo.1 hq.out.1 hPq).2 hq.out.2); clear g0 g1; obtain ⟨g0, g1⟩ := id K)
    | (go_at_call 14; refine (k14.out _ E).mono ?_; rintro e vk14 ⟨x, k, c, rfl, bb⟩; clear k14; replace E := E.kept bb; replace K := K.kept bb; replace Fq := Fq.kept bb; replace B := bthen B bb; clear g0 g1; obtain ⟨g0, g1⟩ := id K)
    | (go_at_call 15; refine (k15.out _ E).mono ?_; rintro e vk15 ⟨rfl, bb⟩; clear k15; replace E := E.kept bb; replace K := K.kept bb; replace Fq := Fq.kept bb; replace B := bthen B bb; obtain ⟨f0, f1, _, _⟩ := id Fq; clear g0 g1; obtain ⟨g0, g1⟩ := id K))
  go_ret
  exact ⟨rfl, B⟩

set_option maxHeartbeats 3200000 in
theorem sign_z (hGS : GSome) (hGN : GNone) (hGW : GWrong) (hBS : BSome) (hBN : BNone) (hBW : BWrong) (hCS : CSome) (hCN : CNone) (hCW : CWrong) (n : Nat) (es : List Eg) (hG : Gph n es) (p : Int) (q : Nat) (q1 : 1 ≤ q) (qn : q ≤ n) (hb : -1048576 * (q : Int) ≤ p ∧ p ≤ 1048576 * (q : Int)) (hL : Lam es p q) (hp : noPos es) (a : Option Addr) (cap m : Nat) (hm : es.length = m) (w : World) (hE : GRow w a es) :
    Calls Try.prog 5 #[.agg #[.int .i64 n, .slice a m cap]] w fun e w' => e = .returned (.bool true) ∧ Below w.heap.size w w' := by
  have n3 := hG.n3
  have k11 : Hid (∀ v : World, True → Calls Try.prog 11 #[] v fun e w' => e = .returned (.bool true) ∧ Below v.heap.size v w') := fun v _ => alive18_any hGS hGN hBS v
  have k7 : Hid (∀ v, GRow v a es → Calls Try.prog 7 #[.agg #[.int .i64 n, .slice a m cap]] v fun e w' => ∃ P Q : Int, e = .returned (.tuple #[.agg #[.int .i64 P, .int .i64 Q], .int .i64 0]) ∧ Low P Q ∧ P * (q : Int) = p * Q ∧ Below v.heap.size v w') := fun v h => hGS n es hG a cap m hm p q q1 qn hb hL v h
  have k14 : Hid (∀ v, GRow v a es → Calls Try.prog 14 #[.agg #[.int .i64 n, .slice a m cap]] v fun e w' => e = .returned (.tuple #[.slice none 0 0, .int .i64 3]) ∧ Below v.heap.size v w') := fun v h => hCN n es hG a cap m hm hp v h
  have k15 : Hid (∀ v, GRow v a es → Calls Try.prog 15 #[.agg #[.int .i64 n, .slice a m cap]] v fun e w' => e = .returned (.int .i64 0) ∧ Below v.heap.size v w') := fun v h => wrongY n es hG a cap m hm v h
  have hq : Hid (1 ≤ q ∧ p ≤ 0) := ⟨q1, Int.not_lt.1 fun k => (lam_sign hL).2 k hp⟩
  have B : Below w.heap.size w (w.alloc (.cells #[.int .i64 n, .slice a m cap] 24)) := balloc (Below.refl _ _) _
  have E := hE.kept B
  have K := Gb.new w n a m cap
  obtain ⟨w0, hw0⟩ : ∃ w0, w.alloc (.cells #[.int .i64 n, .slice a m cap] 24) = w0 := ⟨_, rfl⟩
  rw [hw0] at B E K
  obtain ⟨g0, g1⟩ := id K
  clear hE hG hp hm hL hb q1 qn hGS hGN hGW hBS hBN hBW hCS hCN hCW
  go_enter Try.func5, Try.ntmps5
  go_wp2_with (first
    | (go_at_call 11; refine (k11.out _ trivial).mono ?_; rintro e vk11 ⟨rfl, bb⟩; clear k11; replace E := E.kept bb; replace K := K.kept bb; replace B := bthen B bb; clear g0 g1; obtain ⟨g0, g1⟩ := id K)
    | (go_at_call 7; refine (k7.out _ E).mono ?_; rintro e vk7 ⟨P, Q, rfl, hLo, hPq, bb⟩; clear k7; replace E := E.kept bb; replace K := K.kept bb; replace B := bthen B bb; replace E := E.alloc (.cells #[.int .i64 P, .int .i64 Q] 26); replace K := K.alloc (.cells #[.int .i64 P, .int .i64 Q] 26); replace B := balloc B (.cells #[.int .i64 P, .int .i64 Q] 26); have Fq := Fr.new vk7 vk7.heap.size rfl P Q; have ds : decide (0 < P) = false := (decide_eq_false (fun kk => absurd ((low_sign hLo.1 hq.out.1 hPq).1 kk) (Int.not_lt.2 hq.out.2))); clear g0 g1; obtain ⟨g0, g1⟩ := id K)
    | (go_at_call 14; refine (k14.out _ E).mono ?_; rintro e vk14 ⟨rfl, bb⟩; clear k14; replace E := E.kept bb; replace K := K.kept bb; replace Fq := Fq.kept bb; replace B := bthen B bb; clear g0 g1; obtain ⟨g0, g1⟩ := id K)
    | (go_at_call 15; refine (k15.out _ E).mono ?_; rintro e vk15 ⟨rfl, bb⟩; clear k15; replace E := E.kept bb; replace K := K.kept bb; replace Fq := Fq.kept bb; replace B := bthen B bb; obtain ⟨f0, f1, _, _⟩ := id Fq; clear g0 g1; obtain ⟨g0, g1⟩ := id K))
  go_ret
  exact ⟨rfl, B⟩

theorem meanSign_all (hGS : GSome) (hGN : GNone) (hGW : GWrong) (hBS : BSome) (hBN : BNone) (hBW : BWrong) (hCS : CSome) (hCN : CNone) (hCW : CWrong) (N : Int) (a : Option Addr) (cap : Nat) (L : List Ed) (w : World) (hE : ERow w a L) (hl : L.length ≤ 9223372036854775807) :
    Calls Try.prog 5 #[.agg #[.int .i64 N, .slice a L.length cap]] w fun e w' => e = .returned (.bool true) ∧ Below w.heap.size w w' := by
  by_cases hg : grt N L
  · obtain ⟨n, es, rfl, rfl, hG⟩ := grt_gph hg
    rw [List.length_map]
    by_cases hc : ∃ l, Cyc es l
    · obtain ⟨p, q, q1, qn, hb, hL⟩ := lam_all hG hc
      by_cases hp : noPos es
      · exact sign_z hGS hGN hGW hBS hBN hBW hCS hCN hCW n es hG p q q1 qn hb hL hp a cap _ rfl w hE
      · exact sign_p hGS hGN hGW hBS hBN hBW hCS hCN hCW n es hG p q q1 qn hb hL hp a cap _ rfl w hE
    · exact sign_n hGS hGN hGW hBS hBN hBW hCS hCN hCW n es hG hc a cap _ rfl w hE
  · exact sign_w hGS hGN hGW hBS hBN hBW hCS hCN hCW N a cap L w hE hl hg

end Go.Proofs.Ytdbpgcaodgkcjaa
