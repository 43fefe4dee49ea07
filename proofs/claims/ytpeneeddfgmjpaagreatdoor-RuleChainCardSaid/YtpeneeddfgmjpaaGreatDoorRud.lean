/-
 The walk of RuleChain, by chain.
-/
import Derived.Test.YtpeneeddfgmjpaaGreatDoorRuc
import Derived.Test.YtpeneeddfgmjpaaGreatDoorRut
namespace Go.Proofs.YtpeneeddfgmjpaaGreatDoor.rul
open Go.RowKit Go.Proofs.YtpeneeddfgmjpaaGreatDoor.mem Go.Proofs.YtpeneeddfgmjpaaGreatDoor.sha Go.Proofs.YtpeneeddfgmjpaaGreatDoor.ids Go.Proofs.YtpeneeddfgmjpaaGreatDoor.rows Go.Proofs.YtpeneeddfgmjpaaGreatDoor.hdr Go.Proofs.YtpeneeddfgmjpaaGreatDoor.hds
set_option maxHeartbeats 4000000 in
set_option maxRecDepth 100000 in
theorem ruleChain_walk {T : World → Prop} (hI : RuIs T) (hRS : RSum) (ad : Option Addr) (n cap : Nat) (t : Nat → Int) (sq : Int) (w : World) (hT : T w) (hby : ByV w ad n t) (hnm : n ≤ 1125899906842624) (h0 : 0 ≤ sq) (h1 : sq ≤ 255) :
  Calls Tryz.prog 5 #[.slice ad n cap, .int .u8 sq] w fun e w' => e = .returned (.bool true) ∧ Below w.heap.size w w' := by
 have hch := chain_any hI ad n cap t sq w hT hby hnm h0 h1
 have HCH := Lib.hid hch
 have HI := Lib.hid hI
 have HT := Lib.hid hT
 clear hch hI hT hby
 go_enter Tryz.func5, Tryz.ntmps5
 go_upto_region 2 with (go_at_call 18; (with_reducible refine HCH.out.mono ?_); rintro e w2 ⟨kv, P, b, rfl, hv, hf, hl, ht, hb⟩; have HT2 := Lib.hid (HI.out.next HT.out hb); have HV := Lib.hid hv; have HF := Lib.hid hf; have HL := Lib.hid hl; have HTW := Lib.hid ht; have HB := Lib.hid hb; clear hv hf hl ht hb HCH)
 cases b with
 | true =>
  go_wp2_with (go_at_call 7; (with_reducible refine (awake_any HI.out _ HT2.out).mono ?_); rintro e w3 ⟨rfl, hb3⟩)
  go_ret
  exact ⟨rfl, HB.out.trans (hb3.mono HB.out.size)⟩
 | false =>
  have htw : Calls Tryz.prog 19 #[kv] w2 fun e w' => e = .returned (.bool true) ∧ Below w2.heap.size w2 w' := (twins_ref hRS kv P w2 HV.out HF.out (by have := HL.out; omega)).mono fun e w' ⟨b, he, hb, hbl⟩ => ⟨by rw [he, hb.2 (HTW.out rfl)], hbl⟩
  have HTN := Lib.hid htw
  clear htw
  go_wp2_with (first
   | (go_at_call 19; (with_reducible refine HTN.out.mono ?_); rintro e w3 ⟨rfl, hb3⟩; have hT3 := HI.out.next HT2.out hb3)
   | (go_at_call 7; (with_reducible refine (awake_any HI.out _ hT3).mono ?_); rintro e w4 ⟨rfl, hb4⟩))
  go_ret
  exact ⟨rfl, (HB.out.trans (hb3.mono HB.out.size)).trans (hb4.mono (Nat.le_trans HB.out.size hb3.size))⟩
end Go.Proofs.YtpeneeddfgmjpaaGreatDoor.rul
