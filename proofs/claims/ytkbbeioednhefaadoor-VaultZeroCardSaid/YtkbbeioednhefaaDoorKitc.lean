/-
  The walk of VaultZero: a vault that nobody made has nothing.
  The frame of every law's proof: a law that answers true and turns nothing that was there meets its row.
  An array of words that is listed as laid: what its places hold.
  What the listed variable gives the walks of crc; and that the program's own start lays it.
-/
import Derived.Test.YtkbbeioednhefaaDoorVbh
import Derived.Test.YtkbbeioednhefaaDoorRows
import Derived.WalkKit
import Derived.ProofKit
import Derived.OpenShut
import Derived.ShutString
import Derived.SizedLaws
import Derived.Carry
import Derived.Test.YtkbbeioednhefaaDoorStrx
import Derived.LaidMore
import Derived.Stop.Joined
import Derived.Test.YtkbbeioednhefaaDoorCrcht
namespace Go.Proofs.YtkbbeioednhefaaDoor.vt
open Go.RowKit Go.Proofs.YtkbbeioednhefaaDoor.mem Go.Proofs.YtkbbeioednhefaaDoor.sha Go.Proofs.YtkbbeioednhefaaDoor.strx Go.Proofs.YtkbbeioednhefaaDoor.rows Go.Proofs.YtkbbeioednhefaaDoor.ids Go.Proofs.YtkbbeioednhefaaDoor.rcd Go.Proofs.YtkbbeioednhefaaDoor.jn Go.Proofs.YtkbbeioednhefaaDoor.txl

theorem vsync_no (p : Value)  (w : World) (h : VtNo w p) : Calls Tryd.prog 27 #[p] w fun e w' => e = .returned (.int .i64 0) ∧ w = w' := by
  have HM := Lib.hid (vmade_no p w h)
  clear h
  go_enter Tryd.func27, Tryd.ntmps27
  go_wp2_with (go_at_call 50; (with_reducible refine HM.out.mono ?_); rintro e w1 ⟨rfl, rfl⟩)
  go_ret
  exact ⟨rfl, rfl⟩
theorem vcrash_no (p : Value) (n : Int) (w : World) (h : VtNo w p) : Calls Tryd.prog 28 #[p, .int .i64 n] w fun e w' => e = .returned (.slice none 0 0) ∧ w = w' := by
  have HM := Lib.hid (vmade_no p w h)
  clear h
  go_enter Tryd.func28, Tryd.ntmps28
  go_wp2_with (go_at_call 50; (with_reducible refine HM.out.mono ?_); rintro e w1 ⟨rfl, rfl⟩)
  go_ret
  exact ⟨rfl, rfl⟩
theorem vsize_no (p : Value)  (w : World) (h : VtNo w p) : Calls Tryd.prog 36 #[p] w fun e w' => e = .returned (.int .i64 0) ∧ w = w' := by
  have HM := Lib.hid (vmade_no p w h)
  clear h
  go_enter Tryd.func36, Tryd.ntmps36
  go_wp2_with (go_at_call 50; (with_reducible refine HM.out.mono ?_); rintro e w1 ⟨rfl, rfl⟩)
  go_ret
  exact ⟨rfl, rfl⟩
theorem vappend_no (p : Value) (t : ByteArray) (w : World) (h : VtNo w p) : Calls Tryd.prog 26 #[p, .string t] w fun e w' => e = .returned (.int .i64 8) ∧ w = w' := by
  have HM := Lib.hid (vmade_no p w h)
  clear h
  go_enter Tryd.func26, Tryd.ntmps26
  go_wp2_with (go_at_call 50; (with_reducible refine HM.out.mono ?_); rintro e w1 ⟨rfl, rfl⟩)
  go_ret
  exact ⟨rfl, rfl⟩
theorem vuse_no (p : Value)  (w : World) (h : VtNo w p) : Calls Tryd.prog 33 #[p] w fun e w' => e = .returned (.tuple #[.int .i64 0, .int .i64 0]) ∧ w = w' := by
  have HM := Lib.hid (vmade_no p w h)
  clear h
  go_enter Tryd.func33, Tryd.ntmps33
  go_wp2_with (go_at_call 50; (with_reducible refine HM.out.mono ?_); rintro e w1 ⟨rfl, rfl⟩)
  refine bodyPost_ret (results_tmp2 rfl _ _ _) rfl ⟨rfl, rfl⟩
theorem vfiles_no (p : Value)  (w : World) (h : VtNo w p) : Calls Tryd.prog 35 #[p] w fun e w' => e = .returned (.tuple #[.string ⟨#[]⟩, .string ⟨#[]⟩]) ∧ w = w' := by
  have HM := Lib.hid (vmade_no p w h)
  clear h
  go_enter Tryd.func35, Tryd.ntmps35
  go_wp2_with (go_at_call 50; (with_reducible refine HM.out.mono ?_); rintro e w1 ⟨rfl, rfl⟩)
  refine bodyPost_ret (results_tmp2 rfl _ _ _) rfl ⟨rfl, rfl⟩
theorem VtNo.next {w w' : World} {p : Value} (h : VtNo w p) (hb : Below w.heap.size w w') : VtNo w' p := by
  rcases h with h | ⟨g, hp, h⟩
  · exact .inl h
  · exact .inr ⟨g, hp, Blk.below h hb (Blk.lt h)⟩
theorem vsnap_no (p lv : Value) (w : World) (h : VtNo w p) : Calls Tryd.prog 34 #[p, lv] w fun e w' => e = .returned (.int .i64 8) ∧ Below w.heap.size w w' := by
  have HL := Lib.hid (vlay_no p lv w h)
  clear h
  go_enter Tryd.func34, Tryd.ntmps34
  go_wp2_with (go_at_call 53; (with_reducible refine HL.out.mono ?_); rintro e w1 ⟨rfl, hb1⟩)
  go_ret
  exact ⟨rfl, hb1⟩
theorem vdie_no (p lv : Value) (n : Int) (w : World) (h : VtNo w p) : Calls Tryd.prog 32 #[p, lv, .int .i64 n] w fun e w' => e = .returned (.tuple #[.slice none 0 0, .int .i64 8]) ∧ Below w.heap.size w w' := by
  have HL := Lib.hid (vlay_no p lv w h)
  clear h
  go_enter Tryd.func32, Tryd.ntmps32
  go_wp2_with (go_at_call 53; (with_reducible refine HL.out.mono ?_); rintro e w1 ⟨rfl, hb1⟩)
  refine bodyPost_ret (results_tmp2 rfl _ _ _) rfl ⟨rfl, hb1⟩
set_option maxHeartbeats 8000000 in
set_option maxRecDepth 100000 in
theorem zero_walk (s : ByteArray) (n : Int) (w : World) (hT : crc.Tab w) : Calls Tryd.prog 8 #[.string s, .int .i64 n] w fun e w' => e = .returned (.bool true) ∧ Below w.heap.size w w' := by
  obtain ⟨g, hg⟩ : ∃ g, g = w.heap.size := ⟨_, rfl⟩
  obtain ⟨u, hu⟩ : ∃ u, u = w.alloc (.cells #[.pointer none, .pointer none, .pointer none, .int .i64 0, .int .i64 0] 74) := ⟨_, rfl⟩
  have hB : Below w.heap.size w u := by rw [hu]; exact (Below.refl _ w).alloc (Nat.le_refl _) _
  have hZ : VtNo u (.pointer (some ⟨g, 0, none⟩)) := .inr ⟨g, rfl, by rw [hu, hg]; exact Blk.new w _ _⟩
  have HNo := Lib.hid fun v : World => (show VtNo v (.pointer none) from .inl rfl)
  have HZo := Lib.hid fun v (hv : Below u.heap.size u v) => hZ.next hv
  have HA := Lib.hid fun v (hv : Below u.heap.size u v) => awake_any vt_is v (jn_is.next hT (hB.trans (hv.mono hB.size)))
  have HNSync := Lib.hid fun v => vsync_no (.pointer none) v (HNo.out v)
  have HZSync := Lib.hid fun v (hv : Below u.heap.size u v) => vsync_no (.pointer (some ⟨g, 0, none⟩)) v (HZo.out v hv)
  have HNCrash := Lib.hid fun v => vcrash_no (.pointer none) n v (HNo.out v)
  have HZCrash := Lib.hid fun v (hv : Below u.heap.size u v) => vcrash_no (.pointer (some ⟨g, 0, none⟩)) n v (HZo.out v hv)
  have HNSize := Lib.hid fun v => vsize_no (.pointer none) v (HNo.out v)
  have HZSize := Lib.hid fun v (hv : Below u.heap.size u v) => vsize_no (.pointer (some ⟨g, 0, none⟩)) v (HZo.out v hv)
  have HNAppend := Lib.hid fun v => vappend_no (.pointer none) s v (HNo.out v)
  have HZAppend := Lib.hid fun v (hv : Below u.heap.size u v) => vappend_no (.pointer (some ⟨g, 0, none⟩)) s v (HZo.out v hv)
  have HNUse := Lib.hid fun v => vuse_no (.pointer none) v (HNo.out v)
  have HZUse := Lib.hid fun v (hv : Below u.heap.size u v) => vuse_no (.pointer (some ⟨g, 0, none⟩)) v (HZo.out v hv)
  have HNFiles := Lib.hid fun v => vfiles_no (.pointer none) v (HNo.out v)
  have HZFiles := Lib.hid fun v (hv : Below u.heap.size u v) => vfiles_no (.pointer (some ⟨g, 0, none⟩)) v (HZo.out v hv)
  have HNSnap := Lib.hid fun v => vsnap_no (.pointer none) (.slice none 0 0) v (HNo.out v)
  have HZSnap := Lib.hid fun v (hv : Below u.heap.size u v) => vsnap_no (.pointer (some ⟨g, 0, none⟩)) (.slice none 0 0) v (HZo.out v hv)
  have HNDie := Lib.hid fun v => vdie_no (.pointer none) (.slice none 0 0) n v (HNo.out v)
  have HZDie := Lib.hid fun v (hv : Below u.heap.size u v) => vdie_no (.pointer (some ⟨g, 0, none⟩)) (.slice none 0 0) n v (HZo.out v hv)
  have HB := Lib.hid hB
  have HW := Lib.hid hu
  have HG := Lib.hid hg
  have D0 := Lib.hid (Below.refl u.heap.size u)
  have hee : ((⟨#[]⟩ : ByteArray) ++ (⟨#[]⟩ : ByteArray)).toList = [] := by rw [ByteArray.toList_eq]; rfl
  clear hB hT hZ HNo HZo hu hg
  go_enter Tryd.func8, Tryd.ntmps8
  go_upto_region 3 with fail
  refine wp_at HW.out.symm ?_
  rw [← HG.out]
  clear HW HG
  go_wp2_with (first
    | (go_at_call 32; (with_reducible refine (HNDie.out _).mono ?_); rintro e w2 ⟨rfl, hb2⟩; have D2 := Lib.hid (D0.out.trans (hb2.mono D0.out.size)); clear hb2)
    | (go_at_call 32; (with_reducible refine (HZDie.out _ D2.out).mono ?_); rintro e w3 ⟨rfl, hb3⟩; have D3 := Lib.hid (D2.out.trans (hb3.mono D2.out.size)); clear hb3)
    | (go_at_call 35; (with_reducible refine (HNFiles.out _).mono ?_); rintro e wx ⟨rfl, rfl⟩)
    | (go_at_call 33; (with_reducible refine (HZUse.out _ D3.out).mono ?_); rintro e wx ⟨rfl, rfl⟩)
    | (go_at_call 26; (with_reducible refine (HNAppend.out _).mono ?_); rintro e wx ⟨rfl, rfl⟩)
    | (go_at_call 26; (with_reducible refine (HZAppend.out _ D3.out).mono ?_); rintro e wx ⟨rfl, rfl⟩)
    | (go_at_call 34; (with_reducible refine (HNSnap.out _).mono ?_); rintro e w4 ⟨rfl, hb4⟩; have D4 := Lib.hid (D3.out.trans (hb4.mono D3.out.size)); clear hb4)
    | (go_at_call 34; (with_reducible refine (HZSnap.out _ D4.out).mono ?_); rintro e w5 ⟨rfl, hb5⟩; have D5 := Lib.hid (D4.out.trans (hb5.mono D4.out.size)); clear hb5)
    | (go_at_call 28; (with_reducible refine (HNCrash.out _).mono ?_); rintro e wx ⟨rfl, rfl⟩)
    | (go_at_call 28; (with_reducible refine (HZCrash.out _ D5.out).mono ?_); rintro e wx ⟨rfl, rfl⟩)
    | (go_at_call 27; (with_reducible refine (HNSync.out _).mono ?_); rintro e wx ⟨rfl, rfl⟩)
    | (go_at_call 27; (with_reducible refine (HZSync.out _ D5.out).mono ?_); rintro e wx ⟨rfl, rfl⟩)
    | (go_at_call 36; (with_reducible refine (HNSize.out _).mono ?_); rintro e wx ⟨rfl, rfl⟩)
    | (go_at_call 36; (with_reducible refine (HZSize.out _ D5.out).mono ?_); rintro e wx ⟨rfl, rfl⟩)
    | (go_at_call 30; (with_reducible refine (HA.out w5 D5.out).mono ?_); rintro e w6 ⟨rfl, hb6⟩))
  go_ret
  exact ⟨rfl, (HB.out.trans (D5.out.mono HB.out.size)).trans (hb6.mono (Nat.le_trans HB.out.size D5.out.size))⟩
end Go.Proofs.YtkbbeioednhefaaDoor.vt

namespace Go.Proofs.YtkbbeioednhefaaDoor.kit
open Go.ChangeShapes Go.WideShapes Go.ChangeAt Go.RowKit
open Go.ChangeMaps (open_string shut_string)

theorem own : ownKnob Tryd.prog.godebug = none := by kernel_rfl
theorem laidOut : laidOutB Tryd.prog = true := by kernel_rfl

section
variable {H : Type} {enc : TypeId × Value → H} {P : Program}

theorem trodAll_below (hl : laidOutB P = true) {W W' : World} (hb : Below W.heap.size W W') {sp : Nat → Bool} : ∀ {ts : List TypeId} {vs : List Value} {ds : List (DataW H)} {ps : List MemPlace},
    DataW.TrodAll enc P W 0 (fun _ => true) true ts vs ds ps → (∀ t ∈ ts, P.readableRec t = true ∧ t < P.types.size) → (∀ p ∈ ps, p.block < W.heap.size) → (∀ p ∈ ps, sp p.block = true) → DataW.TrodAll enc P W' 0 sp true ts vs ds ps
  | [], _, _, _, h, _, _, _ => by
    obtain ⟨rfl, rfl, rfl⟩ := trodAll_nil h
    exact trodAll_mk0
  | t :: ts, _, _, _, h, hr, hlt, hs => by
    obtain ⟨v0, vs0, d0, ds0, p0, q0, rfl, rfl, rfl, h0, r0⟩ := trodAll_cons h
    refine trodAll_cons_mk ?_ (trodAll_below hl hb r0 (fun t ht => hr t (List.mem_cons_of_mem _ ht)) (fun p hp => hlt p (List.mem_append_right _ hp)) (fun p hp => hs p (List.mem_append_right _ hp)))
    exact WideElems.Trod_stays hl (hr t List.mem_cons_self).1 (hr t List.mem_cons_self).2 h0 (fun x hx => hb.same (hlt x (List.mem_append_left _ hx))) (fun x hx => hs x (List.mem_append_left _ hx))

theorem post_true {f : Func} {s : ChangeSpec} {apart : Bool} {W W' : World} {args : Array Value} {ds gs : List (DataW H)} {before : List MemPlace} (hl : laidOutB P = true) {b : TypeId} (hbt : P.underlying b = some .bool)
    (hW : DataW.Whole enc P f.params.toList s.vars apart W args.toList ds gs before) (hr : ∀ t ∈ f.params.toList, P.readableRec t = true ∧ t < P.types.size) (hf : f.resultTypes = #[b])
    (hv : s.vars = []) (hres : (s.fn H (ds ++ gs)).results = [.lit (.bool true)]) (hargs : (s.fn H (ds ++ gs)).args = ds) (hvs : (s.fn H (ds ++ gs)).vars = []) (hb : Below W.heap.size W W') :
    s.post enc P f apart true false false W args (.bool true) W' := by
  have hlt : ∀ p ∈ before, p.block < W.heap.size := fun p hp => hW.lt p hp
  have hold : ∀ p ∈ before, (fun b => decide (b < W.heap.size)) p.block = true := fun p hp => by simpa using hlt p hp
  have hW' := hW
  obtain ⟨p, q, hA, hV, rfl, hfz, hnd⟩ := hW
  rw [hv] at hV
  obtain ⟨rfl, rfl⟩ := trodVars_none hV
  refine ⟨ds, [], p ++ [], [], p, [], hW', ?_, ?_, ?_, World.keptBut_mono (fun p hp => ⟨hp, .inr (by simpa using hp)⟩) (hb.frame (· ∈ p ++ [])), fun h => by cases h⟩
  · rw [hres, hf]
    exact trodAll_cons_mk (shut_bool hbt _) trodAll_mk0
  · rw [hargs]
    exact trodAll_below hl hb hA hr (fun x hx => hlt x (List.mem_append_left _ hx)) (fun x hx => by simpa using hlt x (List.mem_append_left _ hx))
  · rw [hvs, hv]
    rfl
end
end Go.Proofs.YtkbbeioednhefaaDoor.kit

namespace Go.Proofs.YtkbbeioednhefaaDoor.kit
open Go.ChangeShapes Go.WideShapes Go.ChangeAt Go.RowKit Go.Proofs.YtkbbeioednhefaaDoor.sha

/-- what a number of 32 bits and one of 16 are -/
theorem word_of {a : Int} (h : Lit.wf (.int .u32 a)) : ∃ c : UInt32, a = U c := by
  have hb : 0 ≤ a ∧ a ≤ 4294967295 := by simpa [Lit.wf, IntKind.min, IntKind.max, IntKind.signed, IntKind.bits] using h
  refine ⟨UInt32.ofNat a.toNat, ?_⟩
  unfold U
  rw [UInt32.toNat_ofNat_of_lt' (by show a.toNat < 4294967296; omega)]
  omega
theorem words_of_trod {H : Type} {enc : TypeId × Value → H} {w : World} {base : Nat} {sp : Nat → Bool} {held : Bool} {fuel n : Nat} {t : TypeId} {p : List MemPlace} (L : List UInt32) (ht : Tryd.prog.underlying t = some (.array n 108)) (cs : List Value)
    (h : DataW.trod enc Tryd.prog w base sp held fuel t cs = some (.agg (L.map fun x => DataW.lit (.int .u32 (U x))), p)) (j : Nat) (hj : j < n) (hL : L.length = n) : cs[j]? = some (.int .u32 (U (L.getD j 0))) := by
  obtain ⟨xs, m1, rfl, hx1, hlen, hn, hel⟩ := DataW.trod_array ht h
  have c1 : Tryd.prog.cellsOf 108 = 1 := by kernel_rfl
  simp only [Prod.mk.injEq, DataW.agg.injEq] at hx1
  have hj2 := hel j hj
  rw [c1, Nat.mul_one] at hj2
  have hxj : xs[j]? = some (xs[j]'(by omega)) := List.getElem?_eq_getElem (by omega)
  rw [hxj] at hj2
  obtain ⟨k, e1, e2, _⟩ := DataW.trod_int Tryd.underlying108 hj2
  have hk : (xs.map (·.1))[j]? = some (.lit (.int .u32 k)) := by rw [List.getElem?_map, hxj]; simp [e2]
  have hLj : L[j]? = some (L[j]'(by rw [hL]; exact hj)) := List.getElem?_eq_getElem (by rw [hL]; exact hj)
  rw [← hx1.1, List.getElem?_map, hLj] at hk
  have hkU : U (L[j]'(by rw [hL]; exact hj)) = k := by simpa using hk
  rw [List.getD_eq_getElem?_getD, hLj, Option.getD_some, hkU]
  have := congrArg (fun l : List Value => l[0]?) e1
  simpa [List.getElem?_take, List.getElem?_drop] using this
end Go.Proofs.YtkbbeioednhefaaDoor.kit

namespace Go.Proofs.YtkbbeioednhefaaDoor.kit
open Go.ChangeShapes Go.WideShapes Go.ChangeAt Go.RowKit Go.Proofs.YtkbbeioednhefaaDoor.sha

def listedC : List (String × DataW Unit) := [("petrel/crc.steps", Rows.laid_petrel_crc_steps)]
theorem gSteps : Tryd.prog.globalNamed "petrel/crc.steps" = some 0 := by kernel_rfl
theorem tSteps : (Tryd.prog.globals[0]?).map (·.type) = some 143 := by kernel_rfl
theorem door_metC (os : Os) (args : Array Value) : laidMetH Tryd.prog listedC ((World.doorLaid Tryd.prog 400 os).forCall (fun _ _ => 0) ⟨#[], args, []⟩).memory :=
  laidMetH_of_parts3 (fuel := 8) (laidMet_of_run' 8 (by kernel_rfl) (by kernel_rfl)) (by kernel_rfl) (by kernel_rfl)
theorem steps_of_laid {W : World} (h : laidMetH Tryd.prog listedC W) : crc.Tab W := by
  rw [MakeChecks.laidMetH_plain _ _ _ (by kernel_rfl)] at h
  obtain ⟨ps, ⟨g0, t0, cs0, f0, p0, q0, hg0, ht0, hv0, hd0, _, _⟩, _, _⟩ := h
  obtain rfl := Option.some.inj (gSteps.symm.trans hg0)
  obtain rfl := Option.some.inj (tSteps.symm.trans ht0)
  have k0 := words_of_trod crc.stepsL Tryd.underlying143 _ hd0
  have c0 : ∀ j, j < 16 → W.cell? ⟨0, j, none⟩ = some (.int .u32 (U (crc.stepsL.getD j 0))) := fun j hj => by
    rw [World.var?_cell hg0 hv0 j, ← k0 j hj rfl]
    simp
  exact ⟨block_lt_of_cell (c0 0 (by decide)), c0⟩
end Go.Proofs.YtkbbeioednhefaaDoor.kit
