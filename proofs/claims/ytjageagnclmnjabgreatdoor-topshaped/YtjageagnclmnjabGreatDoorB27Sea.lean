/- PROVED: what steady's search answers. CONDITIONS: none beyond each theorem's own. -/
import Derived.Test.YtjageagnclmnjabGreatDoorB25Sb
import Derived.Test.YtjageagnclmnjabGreatDoorB26DStart
import Derived.Test.YtjageagnclmnjabGreatDoorB14Lif
import Derived.Test.YtjageagnclmnjabGreatDoorB15Rs
import Derived.Test.YtjageagnclmnjabGreatDoorB24DGo
import Derived.Maps.OwnIn
namespace Go.Proofs.YtjageagnclmnjabGreatDoor.D
set_option maxRecDepth 100000
open Go.RowKit Go.Shelf K
set_option linter.unusedVariables false

attribute [local go_sem] Oper.semAt_some
attribute [local go_sem ↓] appS_whole

theorem Res4.new (w : World) (P : Nat) (hP : P = w.heap.size) : Res4 (w.alloc (.cells #[.slice none 0 0, .map none, .slice none 0 0, .slice none 0 0] 119)) P nil4 := ⟨fun c hc => by
  subst hP
  rw [World.cell?_alloc_at _ _ _ _ rfl, World.frozen?_alloc_at _ _ _ _ rfl]
  rcases (show c = 0 ∨ c = 1 ∨ c = 2 ∨ c = 3 by omega) with rfl | rfl | rfl | rfl <;> exact ⟨rfl, rfl⟩⟩
theorem Sr.begin {w : World} {r : Ru} {v1 : World} (X : Rul v1 w.heap.size r.k0 r.k1 r.r r.m r.j) (Y : Res4 v1 (w.heap.size + 1) nil4) (Z : Bx1 v1 (w.heap.size + 2) (.int .i64 0)) (B : Below w.heap.size w v1) (o : Obj) :
    Sr w r (v1.heap.size + 1 + 1) (v1.heap.size + 1) (kS w (v1.heap.size + 1 + 1) (v1.heap.size + 1)) [] (fun _ => .slice none 0 0) ⟨[], [], []⟩ (((v1.alloc o).alloc (.map #[] 0)).alloc (.cells #[.slice none 0 0, .map (some (v1.heap.size + 1)), .slice none 0 0, .slice none 0 0] 119)) := by
  have b3 := balloc (balloc (balloc (Below.refl v1.heap.size v1) o) (.map #[] 0)) (.cells #[.slice none 0 0, .map (some (v1.heap.size + 1)), .slice none 0 0, .slice none 0 0] 119)
  have hl := Z.lt
  have s1 : (v1.alloc o).heap.size = v1.heap.size + 1 := by simp
  have s2 : ((v1.alloc o).alloc (.map #[] 0)).heap.size = v1.heap.size + 1 + 1 := by simp
  have s3 : (((v1.alloc o).alloc (.map #[] 0)).alloc (.cells #[.slice none 0 0, .map (some (v1.heap.size + 1)), .slice none 0 0, .slice none 0 0] 119)).heap.size = v1.heap.size + 1 + 1 + 1 := by simp
  have hm := MapOf.made (v1.alloc o)
  rw [s1] at hm
  have cN : ∀ c x, (#[.slice none 0 0, .map (some (v1.heap.size + 1)), .slice none 0 0, .slice none 0 0] : Array Value)[c]? = some x → (((v1.alloc o).alloc (.map #[] 0)).alloc (.cells #[.slice none 0 0, .map (some (v1.heap.size + 1)), .slice none 0 0, .slice none 0 0] 119)).cell? ⟨v1.heap.size + 1 + 1, c, none⟩ = some x := fun c x hx => by
    rw [World.cell?_alloc_at _ _ _ _ s2.symm]; exact hx
  refine ⟨X.kept b3, Y.same (b3.block _ Y.lt), Z.same (b3.block _ Z.lt), ⟨fun c hc => ?_, cN 1 _ rfl, fun c hc => ?_, ⟨fun c hc => ?_, fun c d hc hd hne g hg => ?_, fun g hg => ⟨?_, fun c hc q => ?_⟩, ?_⟩, .inr (.inr (.inr (.inl rfl))), .inr (.inr (.inr (.inr rfl))), hm.same ?_, by omega⟩, fun g hg => hg, by omega, List.nodup_nil, fun D hD => (by cases hD), bthen B b3⟩
  · rcases (show c = 0 ∨ c = 1 ∨ c = 2 by omega) with rfl | rfl | rfl <;> exact cN _ _ rfl
  · rw [World.frozen?_alloc_at _ _ _ _ s2.symm]
  · rcases (show c = 0 ∨ c = 1 ∨ c = 2 by omega) with rfl | rfl | rfl <;> exact World.ownsRow_nil _ _ _ _
  · cases hg
  · unfold kS at hg; omega
  · cases q
  · omega
  · exact (balloc (Below.refl _ _) _).block _ (by omega)
def fin4 (a : Value) (M : Nat) (b c : Value) : Nat → Value
  | 0 => a
  | 1 => .map (some M)
  | 2 => b
  | _ => c
theorem cell_still {W W' : World} (h : ∀ (g : Nat) (o : Obj), W.heap[g]? = some o → o.isCells = true → W'.heap[g]? = some o) {a : Addr} {x : Value} (ha : W.cell? a = some x) : W'.cell? a = some x := by
  cases ho : W.heap[a.block]? with
  | none => unfold World.cell? at ha; rw [ho] at ha; cases ha
  | some o =>
    cases hc : o.isCells with
    | true => exact (World.cell?_of_block ((h _ o ho hc).trans ho.symm)).trans ha
    | false => exact (cells_at ha ho hc).elim
theorem end_search {w : World} {r : Ru} {C M Fr : Nat} {Ds : List Nat} {v : Nat → Value} {G : Gs} {W : World} (S : Sr w r C M (fun g => kS w C M g ∨ g = Fr) Ds v G W) (ao0 ao1 ao2 : Option Addr) (m0 m1 m2 cp0 cp1 cp2 : Nat) :
    Res4 (((((W.setCell ⟨w.heap.size + 1, 0, none⟩ (.slice ao0 m0 cp0)).setCell ⟨w.heap.size + 1, 1, none⟩ (.map (some M))).setCell ⟨w.heap.size + 1, 2, none⟩ (.slice ao1 m1 cp1)).setCell ⟨w.heap.size + 1, 3, none⟩ (.slice ao2 m2 cp2)).setCell ⟨w.heap.size + 1 + 1, 0, none⟩ (.int .i64 0)) (w.heap.size + 1) (fin4 (.slice ao0 m0 cp0) M (.slice ao1 m1 cp1) (.slice ao2 m2 cp2)) ∧ Bx1 (((((W.setCell ⟨w.heap.size + 1, 0, none⟩ (.slice ao0 m0 cp0)).setCell ⟨w.heap.size + 1, 1, none⟩ (.map (some M))).setCell ⟨w.heap.size + 1, 2, none⟩ (.slice ao1 m1 cp1)).setCell ⟨w.heap.size + 1, 3, none⟩ (.slice ao2 m2 cp2)).setCell ⟨w.heap.size + 1 + 1, 0, none⟩ (.int .i64 0)) (w.heap.size + 2) (.int .i64 0) ∧ F3.Fam w.heap.size (fun _ => False) v (gn G) (gr r G) (((((W.setCell ⟨w.heap.size + 1, 0, none⟩ (.slice ao0 m0 cp0)).setCell ⟨w.heap.size + 1, 1, none⟩ (.map (some M))).setCell ⟨w.heap.size + 1, 2, none⟩ (.slice ao1 m1 cp1)).setCell ⟨w.heap.size + 1, 3, none⟩ (.slice ao2 m2 cp2)).setCell ⟨w.heap.size + 1 + 1, 0, none⟩ (.int .i64 0)) ∧ (∀ D ∈ Ds, w.heap.size ≤ D ∧ (((((W.setCell ⟨w.heap.size + 1, 0, none⟩ (.slice ao0 m0 cp0)).setCell ⟨w.heap.size + 1, 1, none⟩ (.map (some M))).setCell ⟨w.heap.size + 1, 2, none⟩ (.slice ao1 m1 cp1)).setCell ⟨w.heap.size + 1, 3, none⟩ (.slice ao2 m2 cp2)).setCell ⟨w.heap.size + 1 + 1, 0, none⟩ (.int .i64 0)).heap[D]? = some (.deferred (some []))) ∧ Below w.heap.size w (((((W.setCell ⟨w.heap.size + 1, 0, none⟩ (.slice ao0 m0 cp0)).setCell ⟨w.heap.size + 1, 1, none⟩ (.map (some M))).setCell ⟨w.heap.size + 1, 2, none⟩ (.slice ao1 m1 cp1)).setCell ⟨w.heap.size + 1, 3, none⟩ (.slice ao2 m2 cp2)).setCell ⟨w.heap.size + 1 + 1, 0, none⟩ (.int .i64 0)) := by
  have hk : KeepsOthers W (((((W.setCell ⟨w.heap.size + 1, 0, none⟩ (.slice ao0 m0 cp0)).setCell ⟨w.heap.size + 1, 1, none⟩ (.map (some M))).setCell ⟨w.heap.size + 1, 2, none⟩ (.slice ao1 m1 cp1)).setCell ⟨w.heap.size + 1, 3, none⟩ (.slice ao2 m2 cp2)).setCell ⟨w.heap.size + 1 + 1, 0, none⟩ (.int .i64 0)) := ((((KeepsOthers.setCell _ _ _).trans (KeepsOthers.setCell _ _ _)).trans (KeepsOthers.setCell _ _ _)).trans (KeepsOthers.setCell _ _ _)).trans (KeepsOthers.setCell _ _ _)
  have k1 : (fun g => kS w C M g ∨ g = Fr) (w.heap.size + 1) := .inl (.inr (.inl rfl))
  have k2 : (fun g => kS w C M g ∨ g = Fr) (w.heap.size + 1 + 1) := .inl (.inr (.inr (.inl rfl)))
  refine ⟨?_, ?_, ?_, fun D hD => ⟨(S.df D hD).2.1, hk.same D _ (S.df D hD).2.2 rfl⟩, ?_⟩
  · exact (S.res.all (fin4 (.slice ao0 m0 cp0) M (.slice ao1 m1 cp1) (.slice ao2 m2 cp2))).far (p := ⟨w.heap.size + 1 + 1, 0, none⟩) (by simp) _
  · refine Bx1.set (x := .int .i64 0) ?_ _
    exact S.er.same (put4_heap W (w.heap.size + 1) (fin4 (.slice ao0 m0 cp0) M (.slice ao1 m1 cp1) (.slice ao2 m2 cp2)) (by omega))
  · exact (((((S.fnd.fam.put (p := ⟨w.heap.size + 1, 0, none⟩) k1 _).put (p := ⟨w.heap.size + 1, 1, none⟩) k1 _).put (p := ⟨w.heap.size + 1, 2, none⟩) k1 _).put (p := ⟨w.heap.size + 1, 3, none⟩) k1 _).put (p := ⟨w.heap.size + 1 + 1, 0, none⟩) k2 _).less (fun _ q => q.elim)
  · exact Below.setCell (p := ⟨w.heap.size + 1 + 1, 0, none⟩) (below_put4 (C := w.heap.size + 1) S.below (by omega) (fin4 (.slice ao0 m0 cp0) M (.slice ao1 m1 cp1) (.slice ao2 m2 cp2))) (by show w.heap.size ≤ w.heap.size + 1 + 1; omega) _
theorem arr_lit (X : Array Value) (n : Nat) (h : X.size = n) : X = ((List.range n).map fun i => X.getD i undef).toArray := by
  apply Array.ext_getElem?
  intro i
  by_cases hi : i < n
  · simp [hi, h]
  · simp [Array.getElem?_eq_none (show X.size ≤ i by omega), hi]
theorem act_u (R C Fr : Nat) (X : Array Value) (d : List Deferred) (h : X.size = 83) (h1 : X.getD 1 undef = .pointer (some ⟨R, 0, none⟩)) (h2 : X.getD 2 undef = .pointer (some ⟨R + 1, 0, none⟩)) (h3 : X.getD 3 undef = .pointer (some ⟨R + 1 + 1, 0, none⟩)) (h6 : X.getD 6 undef = .pointer (some ⟨C, 0, none⟩)) (h7 : X.getD 7 undef = .pointer (some ⟨Fr, 0, none⟩)) : ∃ u : Nat → Value, ({ tmps := X, defers := d } : Act) = { tmps := #[u 0, .pointer (some ⟨R, 0, none⟩), .pointer (some ⟨R + 1, 0, none⟩), .pointer (some ⟨R + 1 + 1, 0, none⟩), u 4, u 5, .pointer (some ⟨C, 0, none⟩), .pointer (some ⟨Fr, 0, none⟩), u 8, u 9, u 10, u 11, u 12, u 13, u 14, u 15, u 16, u 17, u 18, u 19, u 20, u 21, u 22, u 23, u 24, u 25, u 26, u 27, u 28, u 29, u 30, u 31, u 32, u 33, u 34, u 35, u 36, u 37, u 38, u 39, u 40, u 41, u 42, u 43, u 44, u 45, u 46, u 47, u 48, u 49, u 50, u 51, u 52, u 53, u 54, u 55, u 56, u 57, u 58, u 59, u 60, u 61, u 62, u 63, u 64, u 65, u 66, u 67, u 68, u 69, u 70, u 71, u 72, u 73, u 74, u 75, u 76, u 77, u 78, u 79, u 80, u 81, u 82], defers := d } := by
  have e := arr_lit X 83 h
  rw [show List.range 83 = [0, 1, 2, 3, 4, 5, 6, 7, 8, 9, 10, 11, 12, 13, 14, 15, 16, 17, 18, 19, 20, 21, 22, 23, 24, 25, 26, 27, 28, 29, 30, 31, 32, 33, 34, 35, 36, 37, 38, 39, 40, 41, 42, 43, 44, 45, 46, 47, 48, 49, 50, 51, 52, 53, 54, 55, 56, 57, 58, 59, 60, 61, 62, 63, 64, 65, 66, 67, 68, 69, 70, 71, 72, 73, 74, 75, 76, 77, 78, 79, 80, 81, 82] from rfl] at e
  simp only [List.map_cons, List.map_nil, h1, h2, h3, h6, h7] at e
  exact ⟨fun i => X.getD i undef, congrArg (fun t => ({ tmps := t, defers := d } : Act)) e⟩
set_option maxRecDepth 100000 in
set_option maxHeartbeats 6400000 in
theorem search_in (n : Nat) (hn : 6 ≤ n) (r : Ru) (h : wrong r = 0) (w : World) :
    CallsIn Fence.wide n Tryz.prog 72 #[.agg #[.int .i64 r.k0, .int .i64 r.k1, .int .i64 r.r, .int .i64 r.m, .int .i64 r.j]] w fun e w' => ((∃ T v M, Dn r T ∧ e = .returned (.tuple #[.agg #[v 0, .map (some M), v 1, v 2], .int .i64 0]) ∧ F3.Fam w.heap.size (fun _ => False) v (gn (ga r T)) (gr r (ga r T)) w') ∨ (Fl r ∧ e = .returned (.tuple #[.agg #[.slice none 0 0, .map none, .slice none 0 0, .slice none 0 0], .int .i64 4]))) ∧ Below w.heap.size w w' := by
  have h1 : 1 ≤ n := by omega
  have hkr := wrong_ok.1 h
  have hrg := hkr.2
  obtain ⟨hjc, hj4, he16⟩ := jj_cast hrg
  replace hjc : Hid _ := hjc
  have hst := start_yes r h
  have hmm := @run_makeMap Tryz.prog
  have X := ((Rul.new w _ rfl r.k0 r.k1 r.r r.m r.j).alloc (.cells #[.slice none 0 0, .map none, .slice none 0 0, .slice none 0 0] 119)).alloc (.cells #[.int .i64 0] 47)
  have Y := Res4.new (w.alloc (.cells #[.int .i64 r.k0, .int .i64 r.k1, .int .i64 r.r, .int .i64 r.m, .int .i64 r.j] 69)) (w.heap.size + 1) (by simp)
  have Z := Bx1.new ((w.alloc (.cells #[.int .i64 r.k0, .int .i64 r.k1, .int .i64 r.r, .int .i64 r.m, .int .i64 r.j] 69)).alloc (.cells #[.slice none 0 0, .map none, .slice none 0 0, .slice none 0 0] 119)) (w.heap.size + 2) (by simp) (.int .i64 0) 47
  replace Y := Y.same ((balloc (Below.refl _ _) (.cells #[.int .i64 0] 47)).block _ Y.lt)
  have B : Below w.heap.size w (((w.alloc (.cells #[.int .i64 r.k0, .int .i64 r.k1, .int .i64 r.r, .int .i64 r.m, .int .i64 r.j] 69)).alloc (.cells #[.slice none 0 0, .map none, .slice none 0 0, .slice none 0 0] 119)).alloc (.cells #[.int .i64 0] 47)) := balloc (balloc (balloc (Below.refl _ _) _) _) _
  obtain ⟨w0, hw0⟩ : ∃ w0, ((w.alloc (.cells #[.int .i64 r.k0, .int .i64 r.k1, .int .i64 r.r, .int .i64 r.m, .int .i64 r.j] 69)).alloc (.cells #[.slice none 0 0, .map none, .slice none 0 0, .slice none 0 0] 119)).alloc (.cells #[.int .i64 0] 47) = w0 := ⟨_, rfl⟩
  rw [hw0] at X Y Z B
  obtain ⟨x0, x1, x2, x3, x4, -, -, -, -, -⟩ := id X
  refine callsIn_of_wp_marks Tryz.func72 rfl trivial ?_ rfl
  simp only [Tryz.ntmps72, List.size_toArray, List.length_cons, List.length_nil, Nat.reduceAdd, Nat.reduceSub, Array.replicate_succ, Array.replicate_zero, List.push_toArray, List.append_toArray, List.nil_append, List.cons_append]
  gi_wp2_with (first
    | (refine ⟨trivial, ?_⟩; gi_at_call 90; refine (callsIn_wide.2 (hst _)).mono ?_; clear hst x0 x1 x2 x3 x4 hw0; rintro e v1 ⟨rfl, b⟩; replace X := X.kept b; replace Y := Y.same (b.block _ Y.lt); replace Z := Z.same (b.block _ Z.lt); replace B := bthen B b; clear b; have S0 := Sr.begin X Y Z B (.cells #[.int .i64 r.k0, .int .i64 1, .int .i64 (-1), .int .i64 0, .int .i64 0, .int .i64 0, .int .i64 r.k1, .int .i64 1, .int .i64 (-1), .int .i64 0, .int .i64 0, .int .i64 0, .int .i64 0, .int .i64 0] 147); clear X Y Z B)
    | (refine ⟨trivial, ?_⟩; gi_at_call 91; refine (callsIn_wide.2 (put_any w.heap.size _ (v1.heap.size + 1 + 1) (v1.heap.size + 1) r _ [] [] [] (K.start r) (pright_ok (start_right hkr)) (by simp) (by simp) (by simp) (by simp) _ S0.fnd)).mono ?_; rintro e W ⟨rfl, v, -, f0, m0⟩; have S1 := S0.mov (G' := ga r 0) f0 m0; clear S0 f0 m0))
  clear hmm w0
  obtain ⟨C, hC⟩ : ∃ C, v1.heap.size + 1 + 1 = C := ⟨_, rfl⟩
  obtain ⟨M, hM⟩ : ∃ M, v1.heap.size + 1 = M := ⟨_, rfl⟩
  rw [hC, hM] at S1
  rw [hC]
  clear hC hM
  refine wpIn_loop (fun a W => ∃ (k Fr : Nat) (Ds : List Nat) (v : Nat → Value) (_ : True), (∃ u : Nat → Value, a = { tmps := #[u 0, .pointer (some ⟨w.heap.size, 0, none⟩), .pointer (some ⟨w.heap.size + 1, 0, none⟩), .pointer (some ⟨w.heap.size + 1 + 1, 0, none⟩), u 4, u 5, .pointer (some ⟨C, 0, none⟩), .pointer (some ⟨Fr, 0, none⟩), u 8, u 9, u 10, u 11, u 12, u 13, u 14, u 15, u 16, u 17, u 18, u 19, u 20, u 21, u 22, u 23, u 24, u 25, u 26, u 27, u 28, u 29, u 30, u 31, u 32, u 33, u 34, u 35, u 36, u 37, u 38, u 39, u 40, u 41, u 42, u 43, u 44, u 45, u 46, u 47, u 48, u 49, u 50, u 51, u 52, u 53, u 54, u 55, u 56, u 57, u 58, u 59, u 60, u 61, u 62, u 63, u 64, u 65, u 66, u 67, u 68, u 69, u 70, u 71, u 72, u 73, u 74, u 75, u 76, u 77, u 78, u 79, u 80, u 81, u 82], defers := Ds.map mk }) ∧ (k ≤ (ga r (k * ee r)).L.length ∧ (ga r (k * ee r)).L.length ≤ 300) ∧ Live (sp r) (ee r) (K.start r) (k * ee r) ∧ Sr w r C M (fun g => kS w C M g ∨ g = Fr) Ds v (ga r (k * ee r)) W ∧ Bx1 W Fr (.int .i64 (k : Int)) ∧ ¬ kS w C M Fr ∧ w.heap.size ≤ Fr) (fun a W => 301 - frOf a W) ?start ?round
  case start =>
    refine ⟨0, W.heap.size, [], v, trivial, act_u w.heap.size C W.heap.size _ _ rfl rfl rfl rfl rfl rfl, ?_, ?_, ?_, Bx1.new W _ rfl _ 3, ?_, S1.below.size⟩
    · rw [Nat.zero_mul]; exact ⟨by omega, by show 1 ≤ 300; omega⟩
    · rw [Nat.zero_mul]; intro t ht; omega
    · rw [Nat.zero_mul]; exact S1.alloc _
    · unfold kS
      have e1 := S1.er.lt
      have e2 : C < W.heap.size := block_lt S1.fnd.cm
      have e3 := S1.fnd.map.lt
      omega
  case round =>
    clear S1 v W v1
    rintro a W ⟨k, Fr, Ds, v, -, ⟨u, rfl⟩, ⟨hkl, hl3⟩, hLv, S, bF, hkF, hwF⟩
    obtain ⟨ao0, cp0, ev0⟩ := S.fnd.slice (c := 0) (by omega)
    obtain ⟨len, hlen⟩ : ∃ len, (ga r (k * ee r)).L.length = len := ⟨_, rfl⟩
    rw [show gn ⟨(ga r (k * ee r)).L, (ga r (k * ee r)).S, (ga r (k * ee r)).F⟩ 0 = len from hlen] at ev0
    have c0 := S.fnd.cf 0 (by omega)
    rw [ev0] at c0
    simp only [fld] at c0
    have cF := bF.c
    obtain ⟨-, -, -, -, x4, -, -, -, -, -⟩ := id S.rul
    replace ev0 : Hid _ := ev0
    have hjc' : Hid ((jj r : Int) = r.j + 1) := hjc.out
    replace hlen : Hid _ := hlen
    by_cases hlt : k < len
    · have hkI : (k : Int) < (len : Int) := by omega
      obtain ⟨x, hx⟩ : ∃ x, (ga r (k * ee r)).L[k]? = some x := ⟨_, List.getElem?_eq_getElem (by have := hlen.out; omega)⟩
      replace hx : Hid _ := hx
      have hmeas : Hid (frOf { tmps := #[u 0, .pointer (some ⟨w.heap.size, 0, none⟩), .pointer (some ⟨w.heap.size + 1, 0, none⟩), .pointer (some ⟨w.heap.size + 1 + 1, 0, none⟩), u 4, u 5, .pointer (some ⟨C, 0, none⟩), .pointer (some ⟨Fr, 0, none⟩), u 8, u 9, u 10, u 11, u 12, u 13, u 14, u 15, u 16, u 17, u 18, u 19, u 20, u 21, u 22, u 23, u 24, u 25, u 26, u 27, u 28, u 29, u 30, u 31, u 32, u 33, u 34, u 35, u 36, u 37, u 38, u 39, u 40, u 41, u 42, u 43, u 44, u 45, u 46, u 47, u 48, u 49, u 50, u 51, u 52, u 53, u 54, u 55, u 56, u 57, u 58, u 59, u 60, u 61, u 62, u 63, u 64, u 65, u 66, u 67, u 68, u 69, u 70, u 71, u 72, u 73, u 74, u 75, u 76, u 77, u 78, u 79, u 80, u 81, u 82], defers := Ds.map mk } W = k) := by
        show frOf _ _ = k
        unfold frOf
        simp [cF, intOf]
      gi_wp2_with (refine ⟨trivial, ?_⟩; gi_at_call 92; refine (callsIn_wide.2 (lates_any _ _)).mono ?_; rintro e w' ⟨rfl, rfl⟩)
      clear c0 cF x4
      have hWl : Hid ((W.alloc (.cells #[.int .i64 r.j] 3)).heap.size = W.heap.size + 1) := by show _ = _; simp
      have hMW := S.fnd.map.lt
      have hDW : ∀ D ∈ Ds, D < W.heap.size := fun D hD => (Array.getElem?_eq_some_iff.1 (S.df D hD).2.2).1
      have hwW := S.below.size
      have hkW : ¬ kS w C M W.heap.size := by
        unfold kS
        have e1 := S.er.lt
        have e2 : C < W.heap.size := block_lt S.fnd.cm
        omega
      have bA : Below W.heap.size W (W.alloc (.cells #[.int .i64 r.j] 3)) := balloc (Below.refl _ _) _
      have bBn := Bx1.new W _ rfl (.int .i64 r.j) 3
      refine wpIn_rangeFunc_ownH rfl h1 (gf := 116) (lb := #[.pointer (some ⟨W.heap.size, 0, none⟩)]) rfl trivial (enters_of Tryz.func116 (by kernel_rfl) rfl)
        (lates_stops (n - 1) (by omega) W.heap.size (jj r) hj4 r.j (by have := hjc'.out; omega) _ bBn.c) KeepB.trans (keepB_b (by rw [hWl.out]; omega)) (Below.refl _ _) (fun _ => rfl)
        (fun pre W' => ∃ v, Ir w r C M Fr W.heap.size k x Ds v (gx r k x (ga r (k * ee r)) pre) W')
        (fun c pre W' => c = .ret ∧ Jr w r M k x Ds pre W')
        (Ir.own w r C M Fr W.heap.size k x Ds _ (by rw [hWl.out]; omega) (by rw [hWl.out]; omega) (fun D hD => by have := hDW D hD; rw [hWl.out]; omega) _)
        (fun c => Jr.own w r M k x Ds c _ (by rw [hWl.out]; omega) (fun D hD => by have := hDW D hD; rw [hWl.out]; omega))
        ⟨v, (S.alloc (.cells #[.int .i64 r.j] 3)).less (fun g q => by
          rcases q with q | q | q
          · exact .inl (.inl q)
          · exact .inl (.inr q)
          · exact .inr q) (fun g q => .inl q), bF.same (bA.block _ bF.lt), bBn, Gk.start hkr hLv hx.out, hl3⟩
        (fun y a' W' => ∃ Bl, Lp W' Bl (lxn (jj r) y.1) (lyn (jj r) y.1) ∧ a' = { tmps := #[u 0, .pointer (some ⟨w.heap.size, 0, none⟩), .pointer (some ⟨w.heap.size + 1, 0, none⟩), .pointer (some ⟨w.heap.size + 1 + 1, 0, none⟩), u 4, u 5, .pointer (some ⟨C, 0, none⟩), .pointer (some ⟨Fr, 0, none⟩), .pointer (some ⟨Bl, 0, none⟩), u 9, u 10, u 11, u 12, u 13, u 14, u 15, u 16, u 17, u 18, u 19, u 20, u 21, u 22, u 23, u 24, u 25, u 26, .int .i64 (k : Int), .pointer (some ⟨C, 0, none⟩), .slice ao0 len cp0, .int .i64 (len : Int), .bool true, u 32, u 33, .pointer (some ⟨w.heap.size, 4, none⟩), .int .i64 r.j, .func (.func 116) #[] #[.pointer (some ⟨W.heap.size, 0, none⟩)], .agg #[.int .i64 (lxn (jj r) y.1), .int .i64 (lyn (jj r) y.1)], u 38, u 39, u 40, u 41, u 42, u 43, u 44, u 45, u 46, u 47, u 48, u 49, u 50, u 51, u 52, u 53, u 54, u 55, u 56, u 57, u 58, u 59, u 60, u 61, u 62, u 63, u 64, u 65, u 66, u 67, u 68, u 69, u 70, u 71, u 72, u 73, u 74, u 75, u 76, u 77, u 78, u 79, u 80, u 81, u 82], defers := [] })
        (fun y a' => fun _ W1 W2 row h hg hr => by
          obtain ⟨Bl, h1, h2⟩ := h
          exact ⟨Bl, h1.turn hg (fun q e => (hr q e).2), h2⟩) ?assign ?body ?done ?stop
      case assign =>
        rintro l pre y W2 K2 ⟨v2, hi⟩ hK
        clear hMW hDW hwW bA bBn hkl hl3 hLv S bF
        gi_wp2
        refine hK _ _ ((KeepsOthers.alloc _ _).from _) (fun o => (balloc (Below.refl W2.heap.size W2) _).cell (p := ⟨W.heap.size, o, none⟩) hi.bj.lt) ⟨v2, hi.kept (balloc (Below.refl _ _) _)⟩ ⟨W2.heap.size, Lp.new _ _ _, rfl⟩
      case body =>
        rintro l pre y a' W2 - - ⟨v2, hi⟩ ⟨Bl, hLp, rfl⟩ h17
        have hb := body_in (n - 1 - 1) l (by omega) r h w W2 C M Fr W.heap.size k (W.alloc (.cells #[.int .i64 r.j] 3)).heap.size x Ds pre y v2 hi h17 (by omega) (by
          rw [(ga_S hLv).1]
          exact Nat.le_trans (Nat.mul_le_mul (show k ≤ 300 by omega) he16) (by omega)) (by rw [hWl.out]; omega) hkW hkF Bl hLp (u 0) (u 4) (u 5) (u 9) (u 10) (u 11) (u 12) (u 13) (u 14) (u 15) (u 16) (u 17) (u 18) (u 19) (u 20) (u 21) (u 22) (u 23) (u 24) (u 25) (u 26) (.int .i64 (k : Int)) (.pointer (some ⟨C, 0, none⟩)) (.slice ao0 len cp0) (.int .i64 (len : Int)) (.bool true) (u 32) (u 33) (.pointer (some ⟨w.heap.size, 4, none⟩)) (.int .i64 r.j) (.func (.func 116) #[] #[.pointer (some ⟨W.heap.size, 0, none⟩)]) (.agg #[.int .i64 (lxn (jj r) y.1), .int .i64 (lyn (jj r) y.1)]) (u 38) (u 39) (u 40) (u 41) (u 42) (u 43) (u 44) (u 45) (u 46) (u 47) (u 48) (u 49) (u 50) (u 51) (u 52) (u 53) (u 54) (u 55) (u 56) (u 57) (u 58) (u 59) (u 60) (u 61) (u 62) (u 63) (u 64) (u 65) (u 66) (u 67) (u 68) (u 69) (u 70) (u 71) (u 72) (u 73) (u 74) (u 75) (u 76) (u 77) (u 78) (u 79) (u 80) (u 81) (u 82)
        simp only [Tryz.f72, Option.bind_some, rgBody, Option.getD_some] at hb
        exact hb
      case done =>
        rintro D ys W2 hD hys ⟨v2, hi⟩ hK
        have hgx : gx r k x (ga r (k * ee r)) ys = ga r ((k + 1) * ee r) := by
          rw [gx_all hx.out (Nat.le_refl _) hys, Nat.add_mul, Nat.one_mul]
        have hLv2 : Live (sp r) (ee r) (K.start r) ((k + 1) * ee r) := by
          rw [Nat.add_mul, Nat.one_mul]; exact Live.more hLv hx.out _ (Nat.le_refl _)
        rw [hgx] at hi
        rw [hWl.out] at hD
        have hDn : D ∉ Ds := fun q => by have := hDW D q; omega
        have S2 := (hi.s.mark (D := D) (by omega) (by omega) hK hDn).alloc (.cells #[.int .i64 ((k : Int) + 1)] 3)
        have bN := Bx1.new W2 _ rfl (.int .i64 ((k : Int) + 1)) 3
        have hfr : Hid (¬ kS w C M W2.heap.size) := by
          show ¬ _
          unfold kS
          have e1 := hi.s.er.lt
          have e2 : C < W2.heap.size := block_lt hi.s.fnd.cm
          have e3 := hi.s.fnd.map.lt
          omega
        have hkk : Hid (k + 1 ≤ (ga r ((k + 1) * ee r)).L.length ∧ (ga r ((k + 1) * ee r)).L.length ≤ 300) := ⟨(List.getElem?_eq_some_iff.1 hi.g.xk).1, hi.l⟩
        have hw5 : IntKind.i64.wrap ((k : Int) + 1) = (k : Int) + 1 := wrapIn (by omega)
        have bf := hi.fr.c
        have hwl2 : Hid (w.heap.size ≤ W2.heap.size) := hi.s.below.size
        replace hLv2 : Hid _ := hLv2
        replace hDn : Hid _ := hDn
        have hk300 : k ≤ 300 := by have := hlen.out; omega
        clear hi hMW hDW hwW bA bBn hkl hl3 hLv S bF hys hgx
        gi_wp2
        refine ⟨⟨k + 1, W2.heap.size, D :: Ds, v2, trivial, act_u w.heap.size C W2.heap.size _ _ rfl rfl rfl rfl rfl rfl, hkk.out, hLv2.out, S2.less (fun g q => ?_) (fun g q => .inl q), ?_, hfr.out, hwl2.out⟩, ?_⟩
        · rcases q with q | q
          · exact .inl (.inl q)
          · exact .inr q
        · exact bN
        · rw [hmeas.out]
          unfold frOf
          simp [bN.c, intOf]
          omega
      case stop =>
        rintro D c pre W2 hD ⟨m, hm, hpre⟩ ⟨rfl, hj⟩ hK
        rw [hWl.out] at hD
        have hfl : Fl r := by
          obtain ⟨p0, y0, e, q1, q2⟩ := hj.fl
          exact fl_of hLv hx.out hm hpre e q1 q2
        have hnd : (D :: Ds).Nodup := List.nodup_cons.2 ⟨fun q => by have := hDW D q; omega, S.nd⟩
        have hdf : ∀ D' ∈ D :: Ds, w.heap.size ≤ D' ∧ W2.heap[D']? = some (.deferred (some [])) := fun D' hq => by
          rcases List.mem_cons.1 hq with rfl | q
          · exact ⟨by omega, hK⟩
          · exact hj.df D' q
        replace hfl : Hid _ := hfl
        replace hnd : Hid _ := hnd
        replace hdf : Hid _ := hdf
        clear hMW hDW hwW bA bBn hkl hl3 hLv S bF hpre hkW
        gi_wp2
        refine leaves_marks (B := w.heap.size) (D :: Ds) W2 hnd.out hdf.out (fun W' hc hb => ?_)
        have cc : ∀ (a : Addr) (x : Value), W2.cell? a = some x → W'.cell? a = some x := fun a x ha => cell_still hc ha
        have p0 := cc _ _ (hj.res.c 0 (by omega)).1
        have p1 := cc _ _ (hj.res.c 1 (by omega)).1
        have p2 := cc _ _ (hj.res.c 2 (by omega)).1
        have p3 := cc _ _ (hj.res.c 3 (by omega)).1
        have p4 : W'.cell? ⟨w.heap.size + 1 + 1, 0, none⟩ = some (.int .i64 4) := cc _ _ hj.er.c
        simp only [nil4] at p0 p1 p2 p3
        exact ⟨.tuple #[.agg #[.slice none 0 0, .map none, .slice none 0 0, .slice none 0 0], .int .i64 4], by simp [results, Tryz.results72, go_sem, p0, p1, p2, p3, p4], .inr ⟨hfl.out, rfl⟩, hj.below.trans hb⟩
    · obtain rfl : k = len := by have := hlen.out; omega
      obtain ⟨ao1, cp1, ev1⟩ := S.fnd.slice (c := 1) (by omega)
      obtain ⟨ao2, cp2, ev2⟩ := S.fnd.slice (c := 2) (by omega)
      obtain ⟨len1, hlen1⟩ : ∃ l, gn ⟨(ga r (k * ee r)).L, (ga r (k * ee r)).S, (ga r (k * ee r)).F⟩ 1 = l := ⟨_, rfl⟩
      obtain ⟨len2, hlen2⟩ : ∃ l, gn ⟨(ga r (k * ee r)).L, (ga r (k * ee r)).S, (ga r (k * ee r)).F⟩ 2 = l := ⟨_, rfl⟩
      rw [hlen1] at ev1
      rw [hlen2] at ev2
      have c2 := S.fnd.cf 1 (by omega)
      have c3 := S.fnd.cf 2 (by omega)
      rw [ev1] at c2
      rw [ev2] at c3
      simp only [fld, Nat.reduceAdd] at c2 c3
      have cm := S.fnd.cm
      have hdn : Hid (Dn r (k * ee r)) := by
        show Dn r (k * ee r)
        refine ⟨hLv, ?_, ?_⟩
        · rw [← ga_L, hlen.out, Nat.mul_comm]
        · rw [← ga_L]; exact hl3
      obtain ⟨p0, g0'⟩ := S.res.c 0 (by omega)
      obtain ⟨p1, g1'⟩ := S.res.c 1 (by omega)
      obtain ⟨p2, g2'⟩ := S.res.c 2 (by omega)
      obtain ⟨p3, g3'⟩ := S.res.c 3 (by omega)
      have p4 : W.cell? ⟨w.heap.size + 1 + 1, 0, none⟩ = some (.int .i64 0) := S.er.c
      have g4' : W.frozen? ⟨w.heap.size + 1 + 1, 0, none⟩ = false := S.er.f
      simp only [nil4] at p0 p1 p2 p3
      have hnC1 : w.heap.size + 1 ≠ C := by have := S.cc; omega
      have hend : Hid (Res4 (((((W.setCell ⟨w.heap.size + 1, 0, none⟩ (.slice ao0 k cp0)).setCell ⟨w.heap.size + 1, 1, none⟩ (.map (some M))).setCell ⟨w.heap.size + 1, 2, none⟩ (.slice ao1 len1 cp1)).setCell ⟨w.heap.size + 1, 3, none⟩ (.slice ao2 len2 cp2)).setCell ⟨w.heap.size + 1 + 1, 0, none⟩ (.int .i64 0)) (w.heap.size + 1) (fin4 (.slice ao0 k cp0) M (.slice ao1 len1 cp1) (.slice ao2 len2 cp2)) ∧ Bx1 (((((W.setCell ⟨w.heap.size + 1, 0, none⟩ (.slice ao0 k cp0)).setCell ⟨w.heap.size + 1, 1, none⟩ (.map (some M))).setCell ⟨w.heap.size + 1, 2, none⟩ (.slice ao1 len1 cp1)).setCell ⟨w.heap.size + 1, 3, none⟩ (.slice ao2 len2 cp2)).setCell ⟨w.heap.size + 1 + 1, 0, none⟩ (.int .i64 0)) (w.heap.size + 2) (.int .i64 0) ∧ F3.Fam w.heap.size (fun _ => False) v (gn (ga r (k * ee r))) (gr r (ga r (k * ee r))) (((((W.setCell ⟨w.heap.size + 1, 0, none⟩ (.slice ao0 k cp0)).setCell ⟨w.heap.size + 1, 1, none⟩ (.map (some M))).setCell ⟨w.heap.size + 1, 2, none⟩ (.slice ao1 len1 cp1)).setCell ⟨w.heap.size + 1, 3, none⟩ (.slice ao2 len2 cp2)).setCell ⟨w.heap.size + 1 + 1, 0, none⟩ (.int .i64 0)) ∧ (∀ D ∈ Ds, w.heap.size ≤ D ∧ (((((W.setCell ⟨w.heap.size + 1, 0, none⟩ (.slice ao0 k cp0)).setCell ⟨w.heap.size + 1, 1, none⟩ (.map (some M))).setCell ⟨w.heap.size + 1, 2, none⟩ (.slice ao1 len1 cp1)).setCell ⟨w.heap.size + 1, 3, none⟩ (.slice ao2 len2 cp2)).setCell ⟨w.heap.size + 1 + 1, 0, none⟩ (.int .i64 0)).heap[D]? = some (.deferred (some []))) ∧ Below w.heap.size w (((((W.setCell ⟨w.heap.size + 1, 0, none⟩ (.slice ao0 k cp0)).setCell ⟨w.heap.size + 1, 1, none⟩ (.map (some M))).setCell ⟨w.heap.size + 1, 2, none⟩ (.slice ao1 len1 cp1)).setCell ⟨w.heap.size + 1, 3, none⟩ (.slice ao2 len2 cp2)).setCell ⟨w.heap.size + 1 + 1, 0, none⟩ (.int .i64 0))) := end_search S ao0 ao1 ao2 k len1 len2 cp0 cp1 cp2
      have hnd : Hid Ds.Nodup := S.nd
      replace ev1 : Hid _ := ev1
      replace ev2 : Hid _ := ev2
      clear hkl hl3 hLv bF x4 hlen1 hlen2 S hlen
      gi_wp2
      obtain ⟨e1, e2, e3, e4, e5⟩ := hend.out
      refine leaves_marks (B := w.heap.size) Ds _ hnd.out e4 (fun W' hc hb => ?_)
      clear p0 p1 p2 p3 p4
      have cc : ∀ (a : Addr) (x : Value), ((((((W.setCell ⟨w.heap.size + 1, 0, none⟩ (.slice ao0 k cp0)).setCell ⟨w.heap.size + 1, 1, none⟩ (.map (some M))).setCell ⟨w.heap.size + 1, 2, none⟩ (.slice ao1 len1 cp1)).setCell ⟨w.heap.size + 1, 3, none⟩ (.slice ao2 len2 cp2)).setCell ⟨w.heap.size + 1 + 1, 0, none⟩ (.int .i64 0))).cell? a = some x → W'.cell? a = some x := fun a x ha => cell_still hc ha
      have p0 := cc _ _ (e1.c 0 (by omega)).1
      have p1 := cc _ _ (e1.c 1 (by omega)).1
      have p2 := cc _ _ (e1.c 2 (by omega)).1
      have p3 := cc _ _ (e1.c 3 (by omega)).1
      have p4 : W'.cell? ⟨w.heap.size + 1 + 1, 0, none⟩ = some (.int .i64 0) := cc _ _ e2.c
      simp only [fin4] at p0 p1 p2 p3
      refine ⟨.tuple #[.agg #[.slice ao0 k cp0, .map (some M), .slice ao1 len1 cp1, .slice ao2 len2 cp2], .int .i64 0], by simp [results, Tryz.results72, go_sem, p0, p1, p2, p3, p4], .inl ⟨k * ee r, v, M, hdn.out, by rw [ev0.out, ev1.out, ev2.out], e3.same (fun c hc' g hg => ?_) hb.size⟩, e5.trans hb⟩
      obtain ⟨o, q1, q2⟩ := e3.cells hc' hg
      rw [q1]; exact hc g o q1 q2

theorem search_any : SrAny := fun r h w => callsIn_wide.1 (search_in 6 (Nat.le_refl _) r h w)

end Go.Proofs.YtjageagnclmnjabGreatDoor.D
