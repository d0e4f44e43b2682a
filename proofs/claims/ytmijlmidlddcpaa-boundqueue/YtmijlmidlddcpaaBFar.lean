/- PROVED: what bound.Far answers. CONDITIONS: none beyond each theorem's own. -/
import Derived.Test.YtmijlmidlddcpaaBoxes
import Derived.Test.YtmijlmidlddcpaaSearch
namespace Go.Proofs.Ytmijlmidlddcpaa
open Go.RowKit

theorem far_no {f g : List Int} (h : ¬ reach f g) : far f g = 0 := by unfold far; rw [if_neg h]
theorem far_yes {f g : List Int} (h : reach f g) : far f g = wst (fdt f g) f.length := by unfold far; rw [if_pos h]

/-- what is known of the row that a box holds -/
theorem Boxes.row {w v : World} {F G C T : Nat} {s1 s2 t u : Value} {S : List Int} (h : Boxes w v F G C T s1 s2 t u S) (hp : 0 < S.length) :
    ∃ r cap, u = .slice (some ⟨r, 0, none⟩) S.length cap ∧ ∀ p, p < S.length → v.cell? ⟨r, p, none⟩ = some (.int .i64 (S.getD p 0)) := by
  obtain ⟨ao, cap, e, hR⟩ := owned_row h.own
  obtain ⟨_, ⟨e2, e3⟩ | ⟨r, cap2, cur, e2, _⟩⟩ := h.own
  · omega
  · obtain ⟨b, o, e4, k⟩ := hR.at hp
    subst e4
    rw [e] at e2
    injection e2 with e5 _ _
    injection e5 with e5
    injection e5 with e5 e6 _
    subst e5 e6
    exact ⟨b, cap, e, fun p hp => by have := k p hp; rw [Nat.zero_add] at this; exact this⟩

set_option maxHeartbeats 3200000 in
theorem far_any (a1 a2 : Option Addr) (c1 c2 : Nat) (f g : List Int) (w : World) (hf : Row w a1 f) (hg : Row w a2 g) (h1 : f.length ≤ 17592186044415) (h2 : g.length ≤ 17592186044415) :
    Calls Try.prog 8 #[.slice a1 f.length c1, .slice a2 g.length c2] w fun e w' => e = .returned (.tuple #[.int .i64 (far f g : Nat), .bool (decide (reach f g))]) ∧ Below w.heap.size w w' := by
  obtain ⟨i0, hi, hz0, hz1, hz2⟩ := info_parts Try.info3
  obtain ⟨n, hn⟩ : ∃ n, f.length = n := ⟨_, rfl⟩
  obtain ⟨m, hm⟩ : ∃ m, g.length = m := ⟨_, rfl⟩
  rw [hn, hm]
  rw [hn] at h1
  rw [hm] at h2
  replace hn : Hid _ := hn
  replace hm : Hid _ := hm
  by_cases hnm : n ≤ m
  · have hnmI : ¬ (m : Int) < (n : Int) := by omega
    have hst := Boxes.start w (.slice a1 n c1) (.slice a2 m c2) (.int .i64 ((m : Int) - 1))
    go_enter Try.func8, Try.ntmps8
    go_wp2
    go_loopw [6, 8] (fun mo tp wr => ∃ (k T : Nat) (S : List Int) (u : Value), k ≤ m ∧ tp = .pointer (some ⟨T, 0, none⟩) ∧ mo = .int .i64 (wsd (fdt f g) n (n - k) : Nat) ∧ Stack g k S ∧ S.length ≤ m - k ∧ (∀ t, k ≤ t → t < n → t + fdt f g t < m) ∧ Boxes w wr w.heap.size (w.heap.size + 1) (w.heap.size + 1 + 1) T (.slice a1 n c1) (.slice a2 m c2) (.int .i64 ((k : Int) - 1)) u S) (fun _ tp wr => tickOf tp wr)
    case atStart => exact ⟨m, w.heap.size + 1 + 1 + 1, [], .slice none 0 0, Nat.le_refl _, rfl, by rw [show n - m = 0 by omega]; rfl, by rw [← hm.out]; exact Stack.none g, Nat.zero_le _, fun t a b => by omega, hst⟩
    case round =>
      obtain ⟨k, T, S, u, hk, rfl, rfl, hS, hSl, hR, hB⟩ := hrel
      clear hst
      replace hR : Hid _ := hR
      have cT := hB.cT
      cases k with
      | zero =>
        have hyes : reach f g := fun t ht => by rw [hm.out]; exact hR.out t (Nat.zero_le _) (by rw [← hn.out]; exact ht)
        have hfar : (far f g : Nat) = wsd (fdt f g) n (n - 0) := by rw [far_yes hyes, hn.out, Nat.sub_zero, wsd_all]
        clear hR
        go_wp2
        go_ret2
        exact ⟨by rw [hfar, decide_eq_true hyes]; rfl, hB.below⟩
      | succ t =>
        have ht : t < m := by omega
        obtain ⟨b2, o2, rfl, hG⟩ := hg.at (by rw [hm.out]; omega)
        rw [show ((t + 1 : Nat) : Int) - 1 = (t : Int) by omega] at hB cT
        have htI : (0 : Int) ≤ t := by omega
        have hGc : Hid (∀ v, Below w.heap.size w v → ∀ j, j < m → v.cell? ⟨b2, o2 + j, none⟩ = some (.int .i64 (g.getD j 0))) := fun v hv j hj => cells_kept (n := g.length) (F := fun j => g.getD j 0) hG hv j (by rw [hm.out]; exact hj)
        clear hG
        have hold : Hid (tickOf (.pointer (some ⟨T, 0, none⟩)) wr = t + 1) := by show _ = _; rw [tickOf_at cT]; omega
        generalize hC : w.heap.size + 1 + 1 = C at hB ⊢
        generalize hGG : w.heap.size + 1 = G at hB hC ⊢
        generalize hFF : w.heap.size = F at hB hGG ⊢
        replace hC : Hid _ := hC
        replace hGG : Hid _ := hGG
        replace hFF : Hid _ := hFF
        go_wp2
        go_loopw [] (fun wr => ∃ (S : List Int) (u : Value), Half g t S ∧ S.length ≤ m - (t + 1) ∧ Boxes w wr F G C T (.slice a1 n c1) (.slice (some ⟨b2, o2, none⟩) m c2) (.int .i64 (t : Int)) u S) (fun wr => lenAt C wr)
        case atStart => exact ⟨S, u, hS.half, hSl, hB⟩
        case round =>
          rename_i wr0
          obtain ⟨S, u, hS, hSl, hB⟩ := hrel
          have cC := hB.cC
          have zC := hB.zC
          have cG := hB.cG
          have cT := hB.cT
          have ctk := hGc.out wr hB.below t ht
          have htm : (t : Int) < m := by omega
          by_cases hS0 : S.length = 0
          case' pos =>
            have hPush : Hid (Stack g t (S ++ [(t : Int)])) := hS.push (by rw [hm.out]; exact ht) (.inl hS0)
            obtain ⟨ao, cap, e0, _, _⟩ := owned_cap hB.own
            rw [hS0] at e0
            subst e0
            have hd0 : decide ((0 : Int) < ((0 : Nat) : Int)) = false := by decide
            have hL2 : Hid ((S ++ [(t : Int)]).length = 1) := by show _ = _; rw [List.length_append, hS0]; rfl
            obtain ⟨L2, hLe⟩ : ∃ L2, 1 = L2 := ⟨_, rfl⟩
            rw [hLe] at hL2
            have hL0 : S.length + 1 = L2 := by omega
            clear hLe hS0
            replace hS : Hid _ := hS
            go_wp2
            go_quiet (fail)
          case' neg =>
            obtain ⟨l, hl⟩ : ∃ l, S.length = l + 1 := ⟨S.length - 1, by omega⟩
            obtain ⟨r, cap, rfl, hrow⟩ := hB.row (by omega)
            have hcap : S.length ≤ cap := by
              obtain ⟨ao, cp, e0, hc, _⟩ := owned_cap hB.own
              injection e0 with _ _ e0
              omega
            have cl := hrow l (by omega)
            obtain ⟨j, hj, hj1, hj2⟩ := hS.pos l (by omega)
            rw [hm.out] at hj2
            rw [hj] at cl
            have cj := hGc.out wr hB.below j hj2
            have hjm : (j : Int) < m := by omega
            by_cases hle : g.getD j 0 ≤ g.getD t 0
            · have hpop : Hid (Half g t (S.take l)) := hS.pop hl (by rw [hj, Int.toNat_natCast]; exact hle)
              have hpb : Hid (∀ q, Boxes w ((wr.drewN q).setCell ⟨C, 0, none⟩ (.slice (some ⟨r, 0, none⟩) l cap)) F G C T (.slice a1 n c1) (.slice (some ⟨b2, o2, none⟩) m c2) (.int .i64 (t : Int)) (.slice (some ⟨r, 0, none⟩) l cap) (S.take l)) := fun q => (hB.drewN q).pop hl
              have hlen : Hid (lenAt C wr = l + 1) := (lenAt_is cC).trans hl
              have hd : decide (g.getD j 0 ≤ g.getD t 0) = true := decide_eq_true hle
              generalize g.getD j 0 = y at cj hd
              generalize g.getD t 0 = x at ctk hd
              have hlt2 : Hid ((S.take l).length ≤ m - (t + 1)) := by show _ ≤ _; simp; omega
              replace hS : Hid _ := hS
              replace hB : Hid _ := hB
              replace hrow : Hid _ := hrow
              have hwl : IntKind.i64.wrap (l : Int) = l := wrapIn (by omega)
              generalize S.length = L at cC hl hcap
              have hLl : (L : Int) - 1 = (l : Int) := by omega
              have hLp : decide (0 < L) = true := decide_eq_true (by omega)
              have hlL : (l : Int) < (L : Int) := by omega
              have hlc : l ≤ cap := by omega
              clear hl hj hle hSl hS0
              go_wp2
              go_quiet (fail)
              go_wp2
              go_roundw
              case rel => exact ⟨S.take l, _, hpop.out, hlt2.out, hpb.out nq⟩
              case measure => rw [hlen.out, lenAt_is (hpb.out nq).cC]; omega
            have hPush : Hid (Stack g t (S ++ [(t : Int)])) := hS.push (by rw [hm.out]; exact ht) (.inr (by rw [show S.length - 1 = l by omega, hj, Int.toNat_natCast]; omega))
            have hd : decide (g.getD j 0 ≤ g.getD t 0) = false := decide_eq_false hle
            clear hle
            generalize g.getD j 0 = y at cj hd
            generalize g.getD t 0 = x at ctk hd
            replace hS : Hid _ := hS
            replace hrow : Hid _ := hrow
            have hwl : IntKind.i64.wrap (l : Int) = l := wrapIn (by omega)
            obtain ⟨L, hL⟩ : ∃ L, S.length = L := ⟨_, rfl⟩
            rw [hL] at hB cC hcap hl
            have hLl : (L : Int) - 1 = (l : Int) := by omega
            have hLp : decide (0 < L) = true := decide_eq_true (by omega)
            have hlL : (l : Int) < (L : Int) := by omega
            obtain ⟨L2, hLe⟩ : ∃ L2, L + 1 = L2 := ⟨_, rfl⟩
            have hL2 : Hid ((S ++ [(t : Int)]).length = L2) := by show _ = _; rw [List.length_append, hL]; exact hLe
            have hL0 : S.length + 1 = L2 := by omega
            clear hLe hS0 hj hl
            replace hL : Hid _ := hL
            go_wp2
            go_quiet (fail)
          all_goals
            by_cases htn : t < n
            · obtain ⟨b1, o1, rfl, hFr⟩ := hf.at (by rw [hn.out]; omega)
              have htn2 : (t : Int) < n := by omega
              obtain ⟨h, hh1, hh2, hh3⟩ := turns (low g (S ++ [(t : Int)]) (f.getD t 0)) L2 (fun p q a b c => hPush.out.mono _ p q a (by rw [hL2.out]; exact b) c)
              have hfc : Hid (∀ v, Below w.heap.size w v → v.cell? ⟨b1, o1 + t, none⟩ = some (.int .i64 (f.getD t 0))) := fun v hv => cells_kept (n := f.length) (F := fun j => f.getD j 0) hFr hv t (by rw [hn.out]; exact htn)
              clear hFr
              have hfind : Hid (∀ v r2 cap2, Boxes w v F G C T (.slice (some ⟨b1, o1, none⟩) n c1) (.slice (some ⟨b2, o2, none⟩) m c2) (.int .i64 (t : Int)) (.slice (some ⟨r2, 0, none⟩) L2 cap2) (S ++ [(t : Int)]) → (∀ p, p < (S ++ [(t : Int)]).length → v.cell? ⟨r2, p, none⟩ = some (.int .i64 ((S ++ [(t : Int)]).getD p 0))) →
                  Calls Try.prog 33 #[.int .i64 L2, .func (.func 34) #[] #[.pointer (some ⟨G, 0, none⟩), .pointer (some ⟨C, 0, none⟩), .pointer (some ⟨F, 0, none⟩), .pointer (some ⟨T, 0, none⟩)]] v fun e w' => e = .returned (.int .i64 h) ∧ ∃ q, w' = v.drewN q) := fun v r2 cap2 hv hrow => by
                refine find_any L2 h (by omega) _ _ _ _ (low g (S ++ [(t : Int)]) (f.getD t 0)) v hh1 hh2 hh3 fun k q hk => ?_
                obtain ⟨j, hj, _, hj2⟩ := hPush.out.pos k (by rw [hL2.out]; exact hk)
                have ck := hrow k (by rw [hL2.out]; exact hk)
                rw [hj] at ck
                rw [hm.out] at hj2
                have e : low g (S ++ [(t : Int)]) (f.getD t 0) k = decide (fit (g.getD j 0) < fit (f.getD t 0)) := by unfold low; rw [hj, Int.toNat_natCast]
                rw [e]
                have := low_any k j t G C F T b1 o1 n c1 b2 o2 m c2 r2 L2 cap2 (f.getD t 0) (g.getD j 0) (v.drewN q) hv.cG hv.cC hv.cF hv.cT ck (hGc.out v hv.below j hj2) (hfc.out v hv.below) (by omega) (by omega) htn2
                exact this.mono fun e w' ⟨h1, q2, h2⟩ => ⟨h1, q + q2, by rw [h2, World.drewN_drewN]⟩
              by_cases h0 : h = 0
              · subst h0
                have hno : ¬ reach f g := fun q => hPush.out.no (f.getD t 0) (fun p hp => hh3 p (by omega) (by rw [← hL2.out]; exact hp)) (q t (by rw [hn.out]; exact htn))
                clear hh2 hh3 hR
                go_wp2_with (first
                  | (at_builtin;  refine wpList_append_own_at _ rfl _ _ 22 rfl (C + 1) 3 i0 (.int .i64 0) 1 8 Try.underlying22 hi hz0 hz1 hz2 rfl (by decide) _ S.length (S.map (Value.int .i64)) rfl ((hB.drewN nq).own.alloc _) ⟨wr.heap.size, 0, none⟩ 1 1 [.int .i64 (t : Int)] rfl rfl (cell_one_new _ _ _) (by simp [Value.oneCell']) (by unfold maxLen; omega) (by omega) (by have : C < wr.heap.size := block_lt hB.cC; simp; omega) ?_; intro u2 v2 ho2 hg2 _ hw2; obtain ⟨cC2, zC2, hB2⟩ := (hB.drewN nq).push ho2 hg2 hw2; clear ho2 hg2 hw2 hB cC zC cG cT; obtain ⟨w3, hw3⟩ : ∃ w3, v2.setCell ⟨C, 0, none⟩ u2 = w3 := ⟨_, rfl⟩; rw [hw3] at hB2; obtain ⟨r2, cap2, rfl, hrow2⟩ := hB2.row (by rw [hL2.out]; omega); rw [hL2.out] at hB2 hw3; have cC3 := hB2.cC; have zC3 := hB2.zC; have cF3 := hB2.cF; have cT3 := hB2.cT; have zT3 := hB2.zT; replace hrow2 : Hid _ := hrow2; replace hB2 : Hid _ := hB2)
                  | (go_at_call 33; refine (hfind.out w3 r2 cap2 hB2.out hrow2.out).mono ?_; rintro e w'' ⟨rfl, q3, rfl⟩; clear hfind))
                go_ret2
                exact ⟨by rw [far_no hno, decide_eq_false hno]; rfl, below_drewN hB2.out.below q3⟩
              · obtain ⟨e, he⟩ : ∃ e, h = e + 1 := ⟨h - 1, by omega⟩
                obtain ⟨hs1, hs2⟩ := hPush.out.yes (f.getD t 0) e (by rw [hL2.out]; omega) (hh2 e (by omega)) (fun p a b => hh3 p (by omega) (by rw [← hL2.out]; exact b))
                have hR2 : Hid (∀ t', t ≤ t' → t' < n → t' + fdt f g t' < m) := fun t' a b => by
                  by_cases q : t' = t
                  · subst q; rw [← hm.out]; exact hs2
                  · exact hR.out t' (by omega) b
                have hW : Hid (wsd (fdt f g) n (n - t) = max (wsd (fdt f g) n (n - (t + 1))) (fdt f g t)) := by
                  show _ = _
                  rw [show n - t = n - (t + 1) + 1 by omega]
                  simp only [wsd]
                  rw [show n - (n - (t + 1) + 1) = t by omega]
                rw [show fd (f.getD t 0) g t = fdt f g t from rfl] at hs1 hs2
                rw [hm.out] at hs2
                generalize fdt f g t = d at hW hs1 hs2
                generalize wsd (fdt f g) n (n - (t + 1)) = W at hW ⊢
                obtain ⟨jj, hjj⟩ : ∃ jj, t + d = jj := ⟨_, rfl⟩
                have hs3 : (S ++ [(t : Int)]).getD e 0 = (jj : Int) := by rw [hs1]; omega
                have hjd : (jj : Int) - t = (d : Int) := by omega
                have hwd : IntKind.i64.wrap (d : Int) = d := wrapIn (by omega)
                have hhe : (h : Int) - 1 = (e : Int) := by omega
                have hwe : IntKind.i64.wrap (e : Int) = e := wrapIn (by omega)
                have heL : (e : Int) < L2 := by omega
                have heN : e < L2 := by omega
                have h0b : ((h : Int) == 0) = false := beq_eq_false_iff_ne.2 (by omega)
                replace hs3 : Hid _ := hs3
                clear hh2 hh3 hR he h0 hs1 hs2 hjj
                go_wp2_with (first
                  | (at_builtin;  refine wpList_append_own_at _ rfl _ _ 22 rfl (C + 1) 3 i0 (.int .i64 0) 1 8 Try.underlying22 hi hz0 hz1 hz2 rfl (by decide) _ S.length (S.map (Value.int .i64)) rfl ((hB.drewN nq).own.alloc _) ⟨wr.heap.size, 0, none⟩ 1 1 [.int .i64 (t : Int)] rfl rfl (cell_one_new _ _ _) (by simp [Value.oneCell']) (by unfold maxLen; omega) (by omega) (by have : C < wr.heap.size := block_lt hB.cC; simp; omega) ?_; intro u2 v2 ho2 hg2 _ hw2; obtain ⟨cC2, zC2, hB2⟩ := (hB.drewN nq).push ho2 hg2 hw2; clear ho2 hg2 hw2 hB cC zC cG cT; obtain ⟨w3, hw3⟩ : ∃ w3, v2.setCell ⟨C, 0, none⟩ u2 = w3 := ⟨_, rfl⟩; rw [hw3] at hB2; obtain ⟨r2, cap2, rfl, hrow2⟩ := hB2.row (by rw [hL2.out]; omega); rw [hL2.out] at hB2 hw3; have cC3 := hB2.cC; have zC3 := hB2.zC; have cF3 := hB2.cF; have cT3 := hB2.cT; have zT3 := hB2.zT; replace hrow2 : Hid _ := hrow2; replace hB2 : Hid _ := hB2)
                  | (go_at_call 33; refine (hfind.out w3 r2 cap2 hB2.out hrow2.out).mono ?_; rintro e w'' ⟨rfl, q3, rfl⟩; clear hfind; have ce := hrow2.out e (by rw [hL2.out]; exact heN); rw [hs3.out] at ce))
                go_region
                all_goals
                  have hB4 := hB2.out.drewN (q3 + 1)
                  generalize w3.drewN (q3 + 1) = w4 at hB4 ⊢
                  have cT4 := hB4.cT
                  replace hB4 : Hid _ := hB4
                  go_wp2
                  go_roundw
                  case rel => exact ⟨t, w4.heap.size, S ++ [(t : Int)], _, by omega, rfl, by rw [hW.out]; go_num, hPush.out, by rw [hL2.out]; omega, hR2.out, hB4.out.next _⟩
                  case measure => show tickOf (.pointer (some ⟨w4.heap.size, 0, none⟩)) _ < tickOf (.pointer (some ⟨T, 0, none⟩)) _; rw [hold.out, tickOf_at (hB4.out.next _).cT]; omega
            · have htn2 : (n : Int) ≤ t := by omega
              go_wp2_with (at_builtin;  refine wpList_append_own_at _ rfl _ _ 22 rfl (C + 1) 3 i0 (.int .i64 0) 1 8 Try.underlying22 hi hz0 hz1 hz2 rfl (by decide) _ S.length (S.map (Value.int .i64)) rfl ((hB.drewN nq).own.alloc _) ⟨wr.heap.size, 0, none⟩ 1 1 [.int .i64 (t : Int)] rfl rfl (cell_one_new _ _ _) (by simp [Value.oneCell']) (by unfold maxLen; omega) (by omega) (by have : C < wr.heap.size := block_lt hB.cC; simp; omega) ?_; intro u2 v2 ho2 hg2 _ hw2; obtain ⟨cC2, zC2, hB2⟩ := (hB.drewN nq).push ho2 hg2 hw2; clear ho2 hg2 hw2 hB cC zC cG cT; obtain ⟨w3, hw3⟩ : ∃ w3, v2.setCell ⟨C, 0, none⟩ u2 = w3 := ⟨_, rfl⟩; rw [hw3] at hB2; obtain ⟨r2, cap2, rfl, hrow2⟩ := hB2.row (by rw [hL2.out]; omega); rw [hL2.out] at hB2 hw3; have cC3 := hB2.cC; have zC3 := hB2.zC; have cF3 := hB2.cF; have cT3 := hB2.cT; have zT3 := hB2.zT; replace hrow2 : Hid _ := hrow2; replace hB2 : Hid _ := hB2)
              go_roundw
              case rel => exact ⟨t, w3.heap.size, S ++ [(t : Int)], _, by omega, rfl, by rw [show n - t = n - (t + 1) by omega], hPush.out, by rw [hL2.out]; omega, fun t' a b => by omega, hB2.out.next _⟩
              case measure => show tickOf (.pointer (some ⟨w3.heap.size, 0, none⟩)) _ < tickOf (.pointer (some ⟨T, 0, none⟩)) _; rw [hold.out, tickOf_at (hB2.out.next _).cT]; omega
  · have hno : ¬ reach f g := fun q => by have := reach_len q; rw [hn.out, hm.out] at this; omega
    have hnmI : (m : Int) < (n : Int) := by omega
    rw [far_no hno, decide_eq_false hno]
    go_enter Try.func8, Try.ntmps8
    go_wp2
    go_ret2
    exact ⟨rfl, balloc (balloc (Below.refl _ _) _) _⟩

end Go.Proofs.Ytmijlmidlddcpaa
