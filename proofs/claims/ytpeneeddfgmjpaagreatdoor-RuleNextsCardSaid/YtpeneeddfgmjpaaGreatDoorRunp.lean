/-
 RuleNexts: for every heads: the header behind them, or why there is none, is the document's: the law answers true, and nothing that was there has turned. Condition: the tables of sha and topic hold what the program lays in them.
-/
import Derived.Test.YtpeneeddfgmjpaaGreatDoorOpenhs
import Derived.Test.YtpeneeddfgmjpaaGreatDoorRul
import Derived.Test.YtpeneeddfgmjpaaGreatDoorKith
import Derived.Test.YtpeneeddfgmjpaaGreatDoorRvn
import Derived.Test.YtpeneeddfgmjpaaGreatDoorCards
import Derived.Test.YtpeneeddfgmjpaaGreatDoorTie
import Derived.SevenTiedAt
namespace Go.Proofs.YtpeneeddfgmjpaaGreatDoor.ruleNexts
open Go.ChangeShapes Go.WideShapes Go.ChangeAt Go.RowKit
open Go.ChangeMaps (open_string shut_string)

theorem reads : ∀ t ∈ Tryz.f4.params.toList, Tryz.prog.readableRec t = true ∧ t < Tryz.prog.types.size := by
 rw [Tryz.params4]
 intro t ht
 have h : t = 27 ∨ t = 9 ∨ t = 3 ∨ t = 3 ∨ t = 3 ∨ t = 24 := by simpa using ht
 rcases h with rfl | rfl | rfl | rfl | rfl | rfl
 ·
  exact ⟨by kernel_rfl, of_decide_eq_true (by kernel_rfl)⟩
 ·
  exact ⟨by kernel_rfl, of_decide_eq_true (by kernel_rfl)⟩
 ·
  exact ⟨by kernel_rfl, of_decide_eq_true (by kernel_rfl)⟩
 ·
  exact ⟨by kernel_rfl, of_decide_eq_true (by kernel_rfl)⟩
 ·
  exact ⟨by kernel_rfl, of_decide_eq_true (by kernel_rfl)⟩
 ·
  exact ⟨by kernel_rfl, of_decide_eq_true (by kernel_rfl)⟩

set_option maxRecDepth 100000 in
theorem lifted (os : Os) (started : os.Started) (H : Type) (enc : TypeId × Value → H) :
  ReturnsInHanded {} Tryz.checked os 4 .any (fun w args => (Rows.ruleNextsSpec.pre enc Tryz.prog Tryz.f4 [] false w args ∧ laidMetH Tryz.prog kit.listedH w) ∧ sizedMet enc Tryz.prog Tryz.f4 (OpenSpec.ofChange Rows.ruleNextsSpec) false w args)
   (Rows.ruleNextsSpec.post enc Tryz.prog Tryz.f4 false true false false) := by
 refine returnsInHanded_of_change_and (C := Tryz.checked) (X := fun w _ => laidMetH Tryz.prog kit.listedH w) (fun _ _ _ hh h => h.of_heap hh) kit.own started (by kernel_rfl) Tryz.func4
  (ChangeSpec.witness_shaped (enc := enc) (C := Tryz.checked) (os := os) (X := fun w _ => laidMetH Tryz.prog kit.listedH w) false (World.doorLaid Tryz.prog 400 os) #[.slice none 0 0, .string ByteArray.empty, .int .i64 0, .int .i64 0, .int .i64 0, .agg (Array.replicate 32 (.int .u8 0))] 8 rfl (World.shaped_of_RefB (by kernel_rfl) (by kernel_rfl)) (by kernel_rfl) (by kernel_rfl) (by kernel_rfl) (kit.door_metH os _)) ?_
 intro W base args ds gs before hval0 hW _ hsz0 hL _
 have hval : ∀ (j : Nat) t v, Tryz.f4.params[j]? = some t → args[j]? = some v → Value.okWide Tryz.prog W .any base t v := hval0
 have hsz : (DataW.weightsEach Tryz.prog (Tryz.f4.params.toList ++ Rows.ruleNextsSpec.plain.varTypes Tryz.prog) (ds ++ gs)).all (· ≤ reachBytes) = true := hsz0
 have hW' := hW
 obtain ⟨p, q, hA0, hV, rfl, hfz, hnd⟩ := hW
 have hA : DataW.TrodAll enc Tryz.prog W 0 (fun _ => true) true Tryz.f4.params.toList args.toList ds p := hA0
 rw [Tryz.params4] at hA hval hsz
 obtain ⟨v0, vs0, d0, ds0, p0, q0, hargs, rfl, rfl, h0, r0⟩ := trodAll_cons hA
 obtain ⟨v1, vs1, d1, ds1, p1, q1, rfl, rfl, rfl, h1, r1⟩ := trodAll_cons r0
 obtain ⟨v2, vs2, d2, ds2, p2, q2, rfl, rfl, rfl, h2, r2⟩ := trodAll_cons r1
 obtain ⟨v3, vs3, d3, ds3, p3, q3, rfl, rfl, rfl, h3, r3⟩ := trodAll_cons r2
 obtain ⟨v4, vs4, d4, ds4, p4, q4, rfl, rfl, rfl, h4, r4⟩ := trodAll_cons r3
 obtain ⟨v5, vs5, d5, ds5, p5, q5, rfl, rfl, rfl, h5, r5⟩ := trodAll_cons r4
 obtain ⟨rfl, rfl, rfl⟩ := trodAll_nil r5
 obtain rfl : args = #[v0, v1, v2, v3, v4, v5] := by cases args; simp_all
 obtain ⟨rfl, rfl⟩ := trodVars_none hV
 obtain ⟨P0, R0, M0⟩ := kit.open_hs (hval 0 27 v0 rfl rfl) h0 hsz (j := 0) rfl rfl
 obtain ⟨a1, rfl, rfl, rfl, w1⟩ := open_string Tryz.underlying9 (hval 1 9 v1 rfl rfl) h1
 have z1 : a1.size ≤ 140737488351232 := by
  have hx := sized_string hsz (j := 1) (t := 9) rfl rfl
  rw [Array.length_toList] at hx
  exact hx
 obtain ⟨a2, rfl, rfl, rfl, w2⟩ := open_int Tryz.underlying3 (hval 2 3 v2 rfl rfl) h2
 obtain ⟨a3, rfl, rfl, rfl, w3⟩ := open_int Tryz.underlying3 (hval 3 3 v3 rfl rfl) h3
 obtain ⟨a4, rfl, rfl, rfl, w4⟩ := open_int Tryz.underlying3 (hval 4 3 v4 rfl rfl) h4
 obtain ⟨y5, rfl, Y5⟩ := kit.open_id (hval 5 24 v5 rfl rfl) h5
 obtain ⟨t1, ht1⟩ : ∃ t, a1 = oct.tx t := ⟨a1.data.toList, (oct.tx_eta a1).symm⟩
 subst ht1
 rw [oct.tx_size] at z1
 refine (rul.nexts_walk rul.ru_is kit.rsum v0 P0 t1 a2 a3 a4 y5 W (kit.tabs_of_laid hL) R0 Y5 z1).mono fun e W' ⟨he, hb⟩ => ?_
 subst he
 exact ⟨_, rfl, kit.post_true kit.laidOut Tryz.underlying4 hW' reads rfl rfl rfl rfl rfl hb⟩

theorem row : Rows.RuleNextsSaid :=
 OpenClaim.holds_of_wide 4 Tryz.f4 rfl rfl rfl rfl rfl rfl rfl ⟨rfl, rfl, rfl, rfl, rfl⟩ rfl rfl rfl rfl rfl (by kernel_rfl) Tryz.func4 (by kernel_rfl)
  (of_decide_eq_true (by kernel_rfl)) (by unfold Func.isWrapper; first | (rw [if_pos (by decide +kernel)]; kernel_rfl) | (rw [if_neg (by decide +kernel)]; exact ⟨rfl, rfl⟩))
  (fun os started H enc _ => lifted os started H enc)

theorem proved : Rows.RuleNextsCardSaid :=
 Claim7.holds_tied_plain_at .later [] [.data, .data, .data] true Rows.ruleNextsCard.stood.harness false
  row (fun _ h => by cases h) (by kernel_rfl) (fun _ h => by cases h) ruleNexts_row_tie rfl ⟨rfl, rfl⟩ (by kernel_rfl) rfl
  (fun f fn hf hfn => by
   obtain rfl : f = 4 := Option.some.inj ((show Tryz.prog.funcNamed "petrel/petrellaw15.RuleNexts" = some 4 by kernel_rfl).symm.trans hf) |>.symm
   obtain rfl : fn = Tryz.f4 := (Option.some.inj (Tryz.func4.symm.trans hfn)).symm
   exact ⟨by kernel_rfl, fun j t ht => by
    rw [Tryz.params4] at ht
    have hm : t ∈ [27, 9, 3, 3, 3, 24] := by simpa using Array.mem_of_getElem? ht
    have hall : ([27, 9, 3, 3, 3, 24].all fun u => !Tryz.prog.wantsStandIn u) = true := by kernel_rfl
    exact (show Tryz.prog.wantsStandIn t = false by simpa using List.all_eq_true.1 hall t hm)⟩)
  (by kernel_rfl)
end Go.Proofs.YtpeneeddfgmjpaaGreatDoor.ruleNexts
