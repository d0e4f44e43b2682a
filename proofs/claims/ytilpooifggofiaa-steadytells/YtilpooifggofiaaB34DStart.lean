/- PROVED: what duel.Start answers. CONDITIONS: none beyond each theorem's own. -/
import Derived.Test.YtilpooifggofiaaB22DOwn
import Derived.Test.YtilpooifggofiaaB23CCtl
import Derived.Test.YtilpooifggofiaaB24CRight
import Derived.Test.YtilpooifggofiaaB25LRight
import Derived.Shelf.Abstract
namespace Go.Proofs.Ytilpooifggofiaa.D
open Go.RowKit K
attribute [local go_sem] idx0 idx1

set_option maxHeartbeats 3200000 in
theorem start_no (r : Ru) (e : Int) (h : wrong r = e) (he : (e != 0) = true) (w : World) :
    Calls Try.prog 23 #[.agg #[.int .i64 r.k0, .int .i64 r.k1, .int .i64 r.r, .int .i64 r.m, .int .i64 r.j]] w fun x w' => x = .returned (.tuple #[.agg #[.int .i64 0, .int .i64 0, .int .i64 0, .int .i64 0, .int .i64 0, .int .i64 0, .int .i64 0, .int .i64 0, .int .i64 0, .int .i64 0, .int .i64 0, .int .i64 0, .int .i64 0, .int .i64 0], .int .i64 e]) ∧ Below w.heap.size w w' := by
  have p := fun v => wrong_is r e h v
  obtain ⟨k0, k1, r, m, j⟩ := r
  have Y := Sta.new (w.alloc (.cells #[.int .i64 k0, .int .i64 k1, .int .i64 r, .int .i64 m, .int .i64 j] 24)) (w.heap.size + 1) (by simp) 0 0 0 0 0 0 0 0 0 0 0 0 0 0
  have B : Below w.heap.size w ((w.alloc (.cells #[.int .i64 k0, .int .i64 k1, .int .i64 r, .int .i64 m, .int .i64 j] 24)).alloc (.cells #[.int .i64 0, .int .i64 0, .int .i64 0, .int .i64 0, .int .i64 0, .int .i64 0, .int .i64 0, .int .i64 0, .int .i64 0, .int .i64 0, .int .i64 0, .int .i64 0, .int .i64 0, .int .i64 0] 48)) := balloc (balloc (Below.refl _ _) _) _
  go_enter Try.func23, Try.ntmps23
  go_wp2_with (go_at_call 33; refine (p _).mono ?_; clear p; rintro x v ⟨rfl, b⟩; replace Y := Y.kept b; replace B := bthen B b; obtain ⟨y0, y1, y2, y3, y4, y5, y6, y7, y8, y9, y10, y11, y12, y13, g0, g1, g2, g3, g4, g5, g6, g7, g8, g9, g10, g11, g12, g13⟩ := id Y)
  refine bodyPost_ret (v := .tuple #[.agg #[.int .i64 0, .int .i64 0, .int .i64 0, .int .i64 0, .int .i64 0, .int .i64 0, .int .i64 0, .int .i64 0, .int .i64 0, .int .i64 0, .int .i64 0, .int .i64 0, .int .i64 0, .int .i64 0], .int .i64 e]) ?_ rfl ⟨rfl, ?_⟩
  · simp [results, Try.results23, go_sem, y0, y1, y2, y3, y4, y5, y6, y7, y8, y9, y10, y11, y12, y13]
  · repeat (with_reducible refine Below.setCell ?_ (by simp) _)
    exact B

set_option maxHeartbeats 6400000 in
theorem start_of (k0 k1 r m j : Int) (P0 Q0 S0 P1 Q1 S1 : Nat) (w : World)
    (p : ∀ v, Calls Try.prog 33 #[.agg #[.int .i64 k0, .int .i64 k1, .int .i64 r, .int .i64 m, .int .i64 j]] v fun e w' => e = .returned (.int .i64 0) ∧ Below v.heap.size v w')
    (s0 : ∀ v, Calls Try.prog 34 #[.int .i64 k0] v fun e w' => e = .returned (.tuple #[.agg #[.func (.func P0) #[] #[], .func (.func Q0) #[] #[], .func (.func S0) #[] #[]], .bool true]) ∧ Below v.heap.size v w')
    (s1 : ∀ v, Calls Try.prog 34 #[.int .i64 k1] v fun e w' => e = .returned (.tuple #[.agg #[.func (.func P1) #[] #[], .func (.func Q1) #[] #[], .func (.func S1) #[] #[]], .bool true]) ∧ Below v.heap.size v w')
    (e0 : ∀ args w, (callFunc P0 args).run Try.prog w = .ok (.enter P0 args) w) (e1 : ∀ args w, (callFunc P1 args).run Try.prog w = .ok (.enter P1 args) w)
    (n0 : ∀ v, Calls Try.prog P0 #[.int .i64 1] v fun e w' => e = .returned (.agg #[.int .i64 k0, .int .i64 1, .int .i64 (-1), .int .i64 0, .int .i64 0, .int .i64 0]) ∧ Below v.heap.size v w')
    (n1 : ∀ v, Calls Try.prog P1 #[.int .i64 1] v fun e w' => e = .returned (.agg #[.int .i64 k1, .int .i64 1, .int .i64 (-1), .int .i64 0, .int .i64 0, .int .i64 0]) ∧ Below v.heap.size v w') :
    Calls Try.prog 23 #[.agg #[.int .i64 k0, .int .i64 k1, .int .i64 r, .int .i64 m, .int .i64 j]] w fun x w' => x = .returned (.tuple #[.agg #[.int .i64 k0, .int .i64 1, .int .i64 (-1), .int .i64 0, .int .i64 0, .int .i64 0, .int .i64 k1, .int .i64 1, .int .i64 (-1), .int .i64 0, .int .i64 0, .int .i64 0, .int .i64 0, .int .i64 0], .int .i64 0]) ∧ Below w.heap.size w w' := by
  have X := (Rul.new w _ rfl k0 k1 r m j).alloc (.cells #[.int .i64 0, .int .i64 0, .int .i64 0, .int .i64 0, .int .i64 0, .int .i64 0, .int .i64 0, .int .i64 0, .int .i64 0, .int .i64 0, .int .i64 0, .int .i64 0, .int .i64 0, .int .i64 0] 48)
  have Y := Sta.new (w.alloc (.cells #[.int .i64 k0, .int .i64 k1, .int .i64 r, .int .i64 m, .int .i64 j] 24)) (w.heap.size + 1) (by simp) 0 0 0 0 0 0 0 0 0 0 0 0 0 0
  have B : Below w.heap.size w ((w.alloc (.cells #[.int .i64 k0, .int .i64 k1, .int .i64 r, .int .i64 m, .int .i64 j] 24)).alloc (.cells #[.int .i64 0, .int .i64 0, .int .i64 0, .int .i64 0, .int .i64 0, .int .i64 0, .int .i64 0, .int .i64 0, .int .i64 0, .int .i64 0, .int .i64 0, .int .i64 0, .int .i64 0, .int .i64 0] 48)) := balloc (balloc (Below.refl _ _) _) _
  obtain ⟨x0, x1, x2, x3, x4, _, _, _, _, _⟩ := id X
  go_enter Try.func23, Try.ntmps23
  go_wp2_with (go_at_call 33; refine (p _).mono ?_; clear p x0 x1 x2 x3 x4; rintro x v ⟨rfl, b⟩; have bl : w.heap.size + 1 < v.heap.size := block_lt (Y.kept b).c0; replace X := (X.kept b).alloc (.cells #[.int .i64 0, .int .i64 0, .int .i64 0, .int .i64 0, .int .i64 0, .int .i64 0, .int .i64 0, .int .i64 0, .int .i64 0, .int .i64 0, .int .i64 0, .int .i64 0, .int .i64 0, .int .i64 0] 48); replace Y := (Y.kept b).alloc (.cells #[.int .i64 0, .int .i64 0, .int .i64 0, .int .i64 0, .int .i64 0, .int .i64 0, .int .i64 0, .int .i64 0, .int .i64 0, .int .i64 0, .int .i64 0, .int .i64 0, .int .i64 0, .int .i64 0] 48); replace B := balloc (bthen B b) (.cells #[.int .i64 0, .int .i64 0, .int .i64 0, .int .i64 0, .int .i64 0, .int .i64 0, .int .i64 0, .int .i64 0, .int .i64 0, .int .i64 0, .int .i64 0, .int .i64 0, .int .i64 0, .int .i64 0] 48); have Z := Sta.new v _ rfl 0 0 0 0 0 0 0 0 0 0 0 0 0 0; obtain ⟨x0, x1, x2, x3, x4, _, _, _, _, _⟩ := id X)
  clear X x0 x1 x2 x3 x4
  go_loopw [18] (fun i wr => (i = .int .i64 0 ∧ Sta wr v.heap.size 0 0 0 0 0 0 0 0 0 0 0 0 0 0 ∨ i = .int .i64 1 ∧ Sta wr v.heap.size k0 1 (-1) 0 0 0 0 0 0 0 0 0 0 0 ∨ i = .int .i64 2 ∧ Sta wr v.heap.size k0 1 (-1) 0 0 0 k1 1 (-1) 0 0 0 0 0) ∧ Sta wr (w.heap.size + 1) 0 0 0 0 0 0 0 0 0 0 0 0 0 0 ∧ Below w.heap.size w wr) (fun i _ => 2 - (intOf i).toNat)
  case atStart => exact ⟨.inl ⟨rfl, Z⟩, Y, B⟩
  case round =>
    clear Y B Z
    obtain ⟨⟨rfl, Z⟩ | ⟨rfl, Z⟩ | ⟨rfl, Z⟩, Y, B⟩ := hrel
    · clear s1 e1 n1
      go_wp2_with (first
        | (go_at_call 34; refine (s0 _).mono ?_; clear s0; rintro x v1 ⟨rfl, b⟩; replace Z := (Z.kept b).alloc (.cells #[.func (.func P0) #[] #[], .func (.func Q0) #[] #[], .func (.func S0) #[] #[]] 94); replace Y := (Y.kept b).alloc (.cells #[.func (.func P0) #[] #[], .func (.func Q0) #[] #[], .func (.func S0) #[] #[]] 94); replace B := balloc (bthen B b) (.cells #[.func (.func P0) #[] #[], .func (.func Q0) #[] #[], .func (.func S0) #[] #[]] 94); clear b)
        | (refine (n0 _).mono ?_; clear n0; rintro x v2 ⟨rfl, b⟩; replace Z := Z.kept b; replace Y := Y.kept b; replace B := bthen B b; clear b; obtain ⟨y0, y1, y2, y3, y4, y5, y6, y7, y8, y9, y10, y11, y12, y13, g0, g1, g2, g3, g4, g5, g6, g7, g8, g9, g10, g11, g12, g13⟩ := id Z))
      go_roundw
      case rel =>
        refine ⟨.inr (.inl ⟨rfl, ((((((Z.set0 k0).set1 1).set2 (-1)).set3 0).set4 0).set5 0)⟩), ?_, ?_⟩
        · exact ((((((Y.far (by omega) _).far (by omega) _).far (by omega) _).far (by omega) _).far (by omega) _).far (by omega) _)
        · repeat (with_reducible refine Below.setCell ?_ (by show w.heap.size ≤ v.heap.size; omega) _)
          exact B
      case measure => simp [intOf]
    · clear s0 e0 n0
      go_wp2_with (first
        | (go_at_call 34; refine (s1 _).mono ?_; clear s1; rintro x v1 ⟨rfl, b⟩; replace Z := (Z.kept b).alloc (.cells #[.func (.func P1) #[] #[], .func (.func Q1) #[] #[], .func (.func S1) #[] #[]] 94); replace Y := (Y.kept b).alloc (.cells #[.func (.func P1) #[] #[], .func (.func Q1) #[] #[], .func (.func S1) #[] #[]] 94); replace B := balloc (bthen B b) (.cells #[.func (.func P1) #[] #[], .func (.func Q1) #[] #[], .func (.func S1) #[] #[]] 94); clear b)
        | (refine (n1 _).mono ?_; clear n1; rintro x v2 ⟨rfl, b⟩; replace Z := Z.kept b; replace Y := Y.kept b; replace B := bthen B b; clear b; obtain ⟨y0, y1, y2, y3, y4, y5, y6, y7, y8, y9, y10, y11, y12, y13, g0, g1, g2, g3, g4, g5, g6, g7, g8, g9, g10, g11, g12, g13⟩ := id Z))
      go_roundw
      case rel =>
        refine ⟨.inr (.inr ⟨rfl, ((((((Z.set6 k1).set7 1).set8 (-1)).set9 0).set10 0).set11 0)⟩), ?_, ?_⟩
        · exact ((((((Y.far (by omega) _).far (by omega) _).far (by omega) _).far (by omega) _).far (by omega) _).far (by omega) _)
        · repeat (with_reducible refine Below.setCell ?_ (by show w.heap.size ≤ v.heap.size; omega) _)
          exact B
      case measure => simp [intOf]
    · obtain ⟨y0, y1, y2, y3, y4, y5, y6, y7, y8, y9, y10, y11, y12, y13, g0, g1, g2, g3, g4, g5, g6, g7, g8, g9, g10, g11, g12, g13⟩ := id Z
      obtain ⟨d0, d1, d2, d3, d4, d5, d6, d7, d8, d9, d10, d11, d12, d13, f0, f1, f2, f3, f4, f5, f6, f7, f8, f9, f10, f11, f12, f13⟩ := id Y
      go_wp2
      refine bodyPost_ret (v := .tuple #[.agg #[.int .i64 k0, .int .i64 1, .int .i64 (-1), .int .i64 0, .int .i64 0, .int .i64 0, .int .i64 k1, .int .i64 1, .int .i64 (-1), .int .i64 0, .int .i64 0, .int .i64 0, .int .i64 0, .int .i64 0], .int .i64 0]) ?_ rfl ⟨rfl, ?_⟩
      · simp [results, Try.results23, go_sem, d0, d1, d2, d3, d4, d5, d6, d7, d8, d9, d10, d11, d12, d13]
      · repeat (with_reducible refine Below.setCell ?_ (by simp) _)
        exact B

theorem sts (k : Int) (h : 1 ≤ k ∧ k ≤ 3) : (∀ args w, (callFunc (stF k) args).run Try.prog w = .ok (.enter (stF k) args) w) ∧ ∀ v, Calls Try.prog (stF k) #[.int .i64 1] v fun e w' => e = .returned (.agg #[.int .i64 k, .int .i64 1, .int .i64 (-1), .int .i64 0, .int .i64 0, .int .i64 0]) ∧ Below v.heap.size v w' := by
  obtain rfl | rfl | rfl : k = 1 ∨ k = 2 ∨ k = 3 := by omega
  · exact ⟨enters_of Try.func44 (by kernel_rfl) rfl, fun v => (V.new_any 1 v).mono fun e w' q => q⟩
  · exact ⟨enters_of Try.func47 (by kernel_rfl) rfl, fun v => (C.new_any 1 v).mono fun e w' q => q⟩
  · exact ⟨enters_of Try.func50 (by kernel_rfl) rfl, fun v => (L.new_any 1 v).mono fun e w' q => q⟩

theorem start_yes (r : Ru) (h : wrong r = 0) (w : World) :
    Calls Try.prog 23 #[.agg #[.int .i64 r.k0, .int .i64 r.k1, .int .i64 r.r, .int .i64 r.m, .int .i64 r.j]] w fun x w' => x = .returned (.tuple #[.agg #[.int .i64 r.k0, .int .i64 1, .int .i64 (-1), .int .i64 0, .int .i64 0, .int .i64 0, .int .i64 r.k1, .int .i64 1, .int .i64 (-1), .int .i64 0, .int .i64 0, .int .i64 0, .int .i64 0, .int .i64 0], .int .i64 0]) ∧ Below w.heap.size w w' := by
  have hk := (wrong_ok.1 h).1
  unfold kinds at hk
  exact start_of r.k0 r.k1 r.r r.m r.j _ _ _ _ _ _ w (fun v => wrong_is r 0 h v) (fun v => sender_yes r.k0 hk.1 v) (fun v => sender_yes r.k1 hk.2 v) (sts r.k0 hk.1).1 (sts r.k1 hk.2).1 (sts r.k0 hk.1).2 (sts r.k1 hk.2).2

end Go.Proofs.Ytilpooifggofiaa.D
