/- The walk of the statement DigestNobody of layer digest: for every input it returns true, and nothing that was there before is changed. -/
import Derived.Test.YtfilmblpikcpnaaGreatDgLaw
namespace Go.Proofs.YtfilmblpikcpnaaGreat
set_option linter.unusedVariables false
set_option maxRecDepth 100000
open Go.RowKit

theorem dgnob_is : kIs 2 = true ∧ isP 1 4 = true := by decide
set_option maxHeartbeats 6400000 in
theorem walk_digestNobody (x cc : Int) (A0 : -9223372036854775808 ≤ x) (A1 : x ≤ 9223372036854775807) (B0 : -9223372036854775808 ≤ cc) (B1 : cc ≤ 9223372036854775807) (w : World) :
    Calls Tryz.prog 8 #[.int .i64 x, .int .i64 cc] w fun e w' => e = .returned (.bool true) ∧ Below w.heap.size w w' := by
  have CE := conf_eq 0 0 0
  go_enter Tryz.func8, Tryz.ntmps8
  go_wp2_with fail
  refine (dgNew_ok 1 4 2 _ dgnob_is.1 dgnob_is.2).mono ?_
  rintro e w1 ⟨hb1, q, p, g, h, rfl, hd⟩
  have B1 := Lib.hid hb1
  clear hb1 hd
  go_wp2_with (first
    | (go_at_call 34; (with_reducible refine (dgReset_nil _).mono ?_); rintro e v2 ⟨rfl, rfl⟩)
    | (go_at_call 35; (with_reducible refine (dgConf_nil _).mono ?_); rintro e v3 ⟨rfl, hb2⟩)
    | (go_at_call 21; (with_reducible refine (dgN_nil _).mono ?_); rintro e v4 ⟨rfl, hb3⟩)
    | (go_at_call 20; (with_reducible refine (dgLen_nil _).mono ?_); rintro e v5 ⟨rfl, hb4⟩)
    | (go_at_call 36; (with_reducible refine (dgCap_nil _).mono ?_); rintro e v6 ⟨rfl, hb5⟩)
    | (go_at_call 37; (with_reducible refine (dgRoom_nil _).mono ?_); rintro e v7 ⟨rfl, hb6⟩)
    | (go_at_call 19; (with_reducible refine (dgNodes_nil _).mono ?_); rintro e v8 ⟨rfl, hb7⟩)
    | (go_at_call 38; (with_reducible refine (dgInsert_nil _ _ _).mono ?_); rintro e v9 ⟨rfl, rfl⟩)
    | (go_at_call 25; (with_reducible refine (dgCompress_nil _).mono ?_); rintro e v10 ⟨rfl, hb8⟩)
    | (go_at_call 24; (with_reducible refine (dgClone_nil _).mono ?_); rintro e v11 ⟨rfl, rfl⟩)
    | (go_at_call 32; (with_reducible refine (dgSame_nil _).mono ?_); rintro e v12 ⟨rfl, rfl⟩)
    | (go_at_call 32; (with_reducible refine (dgSame_nil1 _ _).mono ?_); rintro e v13 ⟨rfl, rfl⟩)
    | (go_at_call 32; (with_reducible refine (dgSame_nil2 _ _).mono ?_); rintro e v14 ⟨rfl, rfl⟩)
    | (go_at_call 11; (with_reducible refine (dgAlive_any _).mono ?_); rintro e v15 ⟨rfl, hb9⟩))
  go_ret
  have c1 := B1.out
  have c2 := c1.trans (hb2.mono c1.size)
  have c3 := c2.trans (hb3.mono c2.size)
  have c4 := c3.trans (hb4.mono c3.size)
  have c5 := c4.trans (hb5.mono c4.size)
  have c6 := c5.trans (hb6.mono c5.size)
  have c7 := c6.trans (hb7.mono c6.size)
  have c8 := c7.trans (hb8.mono c7.size)
  have c9 := c8.trans (hb9.mono c8.size)
  exact ⟨rfl, c9⟩

end Go.Proofs.YtfilmblpikcpnaaGreat
