/- PROVED: alive21 answers true. CONDITIONS: none beyond each theorem's own. -/
import Derived.Test.YtjageagnclmnjaaGreatDoorB06St
import Derived.Test.YtjageagnclmnjaaGreatDoorL38Rsa
namespace Go.Proofs.YtjageagnclmnjaaGreatDoor.D
set_option maxRecDepth 100000
open Go.RowKit K
set_option linter.unusedVariables false
attribute [local go_sem ↓] eqU neU

abbrev sLive : ByteArray := ⟨#[99, 111, 112, 97, 32, 108, 101, 100, 98, 97, 116, 32, 51, 32, 56, 32, 50]⟩
def rLive : Ru := ⟨2, 3, 3, 8, 2⟩
theorem rd_live : Rd sLive.data.toList rLive := ⟨by decide +kernel, by decide +kernel⟩
set_option maxRecDepth 100000 in
set_option maxHeartbeats 3200000 in
theorem alive_of (s u : ByteArray) (hus : u.toList = [99, 111, 112, 97, 32, 108, 101, 100, 98, 97, 116, 32, 51, 32, 56, 32, 50]) (w : World) (L : Lw w)
    (p : ∀ v, Lw v → Calls Tryz.prog 23 #[.agg #[.int .i64 2, .int .i64 3, .int .i64 3, .int .i64 8, .int .i64 2]] v fun e w' => e = .returned (.tuple #[.string u, .int .i64 0]) ∧ Below v.heap.size v w')
    (y : ∀ v, Lw v → Calls Tryz.prog 13 #[.string sLive] v fun e w' => e = .returned (.tuple #[.agg #[.int .i64 2, .int .i64 3, .int .i64 3, .int .i64 8, .int .i64 2], .int .i64 0]) ∧ Below v.heap.size v w') :
    Calls Tryz.prog 10 #[] w fun e w' => e = .returned (.bool true) ∧ Below w.heap.size w w' := by
  have hs := sameU_self 2 3 3 8 2
  go_enter Tryz.func10, Tryz.ntmps10
  go_wp2_with (first
    | (go_at_call 13; with_reducible refine (y _ L).mono ?_; clear y; rintro e v3 ⟨rfl, b⟩; have B := balloc b (.cells #[.int .i64 2, .int .i64 3, .int .i64 3, .int .i64 8, .int .i64 2] 33); have Y := Rul.new v3 _ rfl 2 3 3 8 2; replace L := L.kept B; clear b; obtain ⟨d0, d1, d2, d3, d4, -, -, -, -, -⟩ := id Y)
    | (go_at_call 23; with_reducible refine (p _ L).mono ?_; clear p d0 d1 d2 d3 d4; rintro e v1 ⟨rfl, b⟩; replace Y := Y.kept b; replace B := bthen B b; clear b L; obtain ⟨d0, d1, d2, d3, d4, -, -, -, -, -⟩ := id Y))
  go_ret
  exact ⟨rfl, B⟩
theorem alive21 (w : World) (L : Lw w) : Calls Tryz.prog 10 #[] w fun e w' => e = .returned (.bool true) ∧ Below w.heap.size w w' :=
  alive_of sLive ⟨(tx rLive).toArray⟩ (by rw [Lib.toList_data]; exact rd_live.2) w L (fun v l => print_yes rLive rd_live.1 v l) (fun v l => parse_rd sLive (by decide) rLive rd_live v l)

end Go.Proofs.YtjageagnclmnjaaGreatDoor.D
