/-
  The landed rule: places of heads, what a header has of its parents.
  The library's slices.SortFunc, as it stands in this seat at the places of headers, against the kit's contracts.
  Places sorted: slices.SortFunc by the order of places.
  The landed rule: Height, Unknown.
  The landed rule: Verdict.
-/
import Derived.Test.YtpeneeddfgmjpaaGreatDoorRve
import Derived.Test.YtpeneeddfgmjpaaGreatDoorIsa
import Derived.Test.YtpeneeddfgmjpaaGreatDoorChecked
import Derived.Shelf.SlSortCmp.WholeK
namespace Go.Proofs.YtpeneeddfgmjpaaGreatDoor.rul
open Go.RowKit Go.Proofs.YtpeneeddfgmjpaaGreatDoor.mem Go.Proofs.YtpeneeddfgmjpaaGreatDoor.sha Go.Proofs.YtpeneeddfgmjpaaGreatDoor.ids Go.Proofs.YtpeneeddfgmjpaaGreatDoor.rows Go.Proofs.YtpeneeddfgmjpaaGreatDoor.hdr Go.Proofs.YtpeneeddfgmjpaaGreatDoor.hds Go.Proofs.YtpeneeddfgmjpaaGreatDoor.mpk
open Go.Proofs.YtpeneeddfgmjpaaGreatDoor.opn (zid)

def PlacesOut (w : World) (K : List Hd) (e : Ending) (w' : World) : Prop :=
 (errR K ≠ 0 → e = .returned (.tuple #[.slice none 0 0, .int .i64 (errR K)])) ∧ (errR K = 0 → ∃ o, e = .returned (.tuple #[o, .int .i64 0]) ∧ OwnK w' (w.heap.size ≤ ·) 60 33 o (pls K)) ∧ Below w.heap.size w w'
set_option maxHeartbeats 8000000 in
set_option maxRecDepth 100000 in
theorem places_any (v : Value) (P : HP) (w : World) (hT : Tabs w) (hv : HsV w v P) (hf : Few P) (hn : P.length ≤ 1000) :
  Calls Tryz.prog 25 #[v] w fun e w' => PlacesOut w (hs P) e w' := by
 obtain ⟨ad, cap, rfl⟩ := hv.form
 obtain ⟨n, hnn⟩ : ∃ n, n = P.length := ⟨_, rfl⟩
 obtain ⟨S, hS⟩ : ∃ S, S = w.heap.size := ⟨_, rfl⟩
 have HT := Lib.hid hT
 have HV := Lib.hid hv
 have HNN := Lib.hid hnn
 have HS := Lib.hid hS
 rw [← hnn] at hn HV ⊢
 clear hv hnn hT hS
 go_enter Tryz.func25, Tryz.ntmps25
 go_wp2_with fail
 go_loopw [4, 11] (fun o i wr => ∃ k : Nat, k ≤ n ∧ i = .int .i64 (k : Int) ∧ OwnK wr (S ≤ ·) 60 33 o (pls ((hs P).take k)) ∧ Below w.heap.size w wr ∧ Hid (∀ h ∈ (hs P).take k, (idH h).2 = 0)) (fun _ i _ => n - (intOf i).toNat)
 case atStart => exact ⟨0, Nat.zero_le _, rfl, OwnK.nil _ _ _ _, Below.refl _ _, Lib.hid fun h hh => by rw [List.take_zero] at hh; cases hh⟩
 case round =>
  obtain ⟨k, hk, rfl, ho, hbl, HOK⟩ := hrel
  have k0 : (0 : Int) ≤ (k : Int) := Int.natCast_nonneg _
  have HLN : Hid ((pls ((hs P).take k)).length = k) := Lib.hid (by rw [pls_len, List.length_take, hs_len, ← HNN.out]; omega)
  obtain ⟨oa, oc, hvf⟩ := ho.form
  rw [HLN.out] at hvf
  subst hvf
  have HBL := Lib.hid hbl
  have HO := Lib.hid ho
  by_cases hlt : k < n
  ·
   have kI : (k : Int) < (n : Int) := by omega
   have hkP : k < P.length := by rw [← HNN.out]; exact hlt
   have hv := HV.out.next hbl
   obtain ⟨b, off, rfl, hbb, hld, -, -, -⟩ := hv.at_ hkP
   have hld := hld 0
   have hin := hv.2.get hkP
   have hfw := hf.get hkP
   have hsn := take_hs_succ hkP
   have hgd := hs_getD hkP
   obtain ⟨x, hx⟩ : ∃ x, x = (P.getD k zhp).1 := ⟨_, rfl⟩
   obtain ⟨u, hu⟩ : ∃ u, u = (P.getD k zhp).2 := ⟨_, rfl⟩
   rw [← hx, ← hu] at hld hin
   rw [← hx] at hfw hsn hgd
   have hh := run_hold wr x u hin.2 (rdv_one hin.1)
   have hkb := held_blk wr x u
   have hb2 := held_below wr x u
   obtain ⟨w2, hw2⟩ : ∃ z, z = heldW wr x u := ⟨_, rfl⟩
   rw [← hw2] at hh hkb hb2
   have hl2 := run_load_hd hkb hin.2
   have hid := lident_any x u w2 (HT.out.next (hbl.trans (hb2.mono hbl.size))) hin.2 (hin.1.next hb2) hfw.1 hfw.2
   have hl32 := idH_len x
   have HER : Hid ((idH x).2 ≠ 0 → errR (hs P) = (idH x).2) := Lib.hid fun hne => by
    have := err_at (L := hs P) (i := k) (by rw [hs_len]; exact hkP) HOK.out (by rw [hgd]; exact hne)
    rw [this, hgd]
   have HOK1 : Hid ((idH x).2 = 0 → ∀ h ∈ (hs P).take (k + 1), (idH h).2 = 0) := Lib.hid fun he h hh => by
    rw [hsn] at hh
    rcases List.mem_append.1 hh with hh | hh
    ·
     exact HOK.out h hh
    ·
     rw [List.mem_singleton.1 hh]; exact he
   have HSN : Hid (pls ((hs P).take (k + 1)) = pls ((hs P).take k) ++ [plv (x.height, (idH x).1)]) := Lib.hid (by rw [hsn, pls_snoc])
   obtain ⟨y, hy⟩ : ∃ y, y = (idH x).1 := ⟨_, rfl⟩
   obtain ⟨er, her⟩ : ∃ e, e = (idH x).2 := ⟨_, rfl⟩
   obtain ⟨z, hz⟩ : ∃ z, z = x.height := ⟨_, rfl⟩
   rw [← hy, ← her] at hid
   rw [← hy] at hl32
   rw [← hy, ← hz] at HSN
   rw [← her] at HER HOK1
   obtain ⟨hv0, hhv⟩ : ∃ z, z = hdv x u := ⟨_, rfl⟩
   rw [← hhv] at hld hid hl2 hh
   have HID := Lib.hid hid
   have HH := Lib.hid hh
   have HL := Lib.hid hl32
   have HKB := Lib.hid hkb
   have HB2 := Lib.hid hb2
   have HR := Lib.hid hin.2
   have HZ := Lib.hid hz
   clear ho hbl hv hbb hin hfw hsn hgd hx hu hh hkb hb2 hw2 hid hl32 hy her hz hhv hkP
   by_cases he : er = 0
   ·
    subst he
    have HOK2 := Lib.hid (HOK1.out rfl)
    clear HOK1
    go_wp2_with (first
     | ((with_reducible refine step_load (t := 26) (x := .tmp 13) (p := ?lpa1) (v := ?lva1) ?lga1 ?loa1 ?lxa1 ?lra1 ?lha1); (case lga1 => rfl); (case loa1 => rfl); (case lxa1 => rfl); (case lra1 => exact hld))
     | ((with_reducible refine step_store_run (t := 26) (x := .tmp 6) (y := .tmp 14) (p := ?spa1) (v := ?sva1) (w' := ?swa1) ?sga1 ?soa1 ?sxa1 ?sya1 ?sra1 ?sha1); (case sga1 => rfl); (case soa1 => rfl); (case sxa1 => rfl); (case sya1 => rfl); (case sra1 => exact HH.out))
     | ((with_reducible refine step_load (t := 26) (x := .tmp 6) (p := ?lpa2) (v := ?lva2) ?lga2 ?loa2 ?lxa2 ?lra2 ?lha2); (case lga2 => rfl); (case loa2 => rfl); (case lxa2 => rfl); (case lra2 => exact hl2))
     | (go_at_call 33; (with_reducible refine HID.out.mono ?_); rintro e w3 ⟨rfl, hb3⟩; have HHI := Lib.hid (run_holdI w3 y HL.out); have hb4 := heldI_below w3 y; have hl4 := box_load (heldI_blk w3 y) HL.out 0; have hx4 := (HKB.out.below hb3 HKB.out.lt).below hb4 (Nat.lt_of_lt_of_le HKB.out.lt hb3.size); have c1 := (HdBlk.of hx4 HR.out).height; rw [← HZ.out] at c1; have hb24 := hb3.trans (hb4.mono hb3.size); have hbr4 := HB2.out.trans (hb24.mono HB2.out.size); have hSz : S ≤ (heldI w3 y).heap.size := (by have h1 := HS.out; have h2 := HBL.out.size; have h3 := hbr4.size; omega); obtain ⟨v5, w5, hrun, ho5, hb5⟩ := push_pl (HO.out.next hbr4) (by rw [HLN.out]; omega) (z, y) HL.out hSz; have HO5 := Lib.hid ho5; have HB5 := Lib.hid ((HBL.out.trans (hbr4.mono HBL.out.size)).trans (show Below w.heap.size (heldI w3 y) w5 from HS.out ▸ hb5)); clear hb3 hb4 hx4 hb24 hbr4 ho5 hb5 hSz HID)
     | ((with_reducible refine step_store_run (t := 24) (x := .tmp 7) (y := .tmp 18) (p := ?spb1) (v := ?svb1) (w' := ?swb1) ?sgb1 ?sob1 ?sxb1 ?syb1 ?srb1 ?shb1); (case sgb1 => rfl); (case sob1 => rfl); (case sxb1 => rfl); (case syb1 => rfl); (case srb1 => exact HHI.out))
     | ((with_reducible refine step_load (t := 24) (x := .tmp 7) (p := ?lpc1) (v := ?lvc1) ?lgc1 ?loc1 ?lxc1 ?lrc1 ?lhc1); (case lgc1 => rfl); (case loc1 => rfl); (case lxc1 => rfl); (case lrc1 => exact hl4))
     | ((with_reducible refine step_place (x := .tmp 25) (y := .tmp 26) (z, y) ?plg ?plo ?plx ?ply ?plr ?plh); (case plg => rfl); (case plo => rfl); (case plx => rfl); (case ply => rfl); (case plr => exact HL.out))
     | ((with_reducible refine step_build1p (x := .tmp 27) (y := (z, y)) ?bge1 ?boe1 ?bxe1 ?ble1 ?bhe1); (case bge1 => rfl); (case boe1 => rfl); (case bxe1 => rfl); (case ble1 => exact HL.out))
     | ((with_reducible refine step_append (s := .tmp 23) (x := .tmp 28) (t := 55) (vs := ?ase1) (vx := ?axe1) (v' := ?ave1) (w' := ?awe1) ?age1 ?aoe1 ?ape1 ?aqe1 ?are1 ?ahe1); (case age1 => rfl); (case aoe1 => rfl); (case ape1 => rfl); (case aqe1 => rfl); (case are1 => exact hrun)))
    go_roundw
    case rel => exact ⟨k + 1, hlt, by push_cast; rfl, by rw [HSN.out]; exact HO5.out, HB5.out, HOK2⟩
    case measure => simp [intOf]; omega
   ·
    have hne : (er != 0) = true := bne_iff_ne.2 he
    have HER2 := Lib.hid (HER.out he)
    have HNE := Lib.hid he
    clear he HER
    go_wp2_with (first
     | ((with_reducible refine step_load (t := 26) (x := .tmp 13) (p := ?lpf1) (v := ?lvf1) ?lgf1 ?lof1 ?lxf1 ?lrf1 ?lhf1); (case lgf1 => rfl); (case lof1 => rfl); (case lxf1 => rfl); (case lrf1 => exact hld))
     | ((with_reducible refine step_store_run (t := 26) (x := .tmp 6) (y := .tmp 14) (p := ?spf1) (v := ?svf1) (w' := ?swf1) ?sgf1 ?sof1 ?sxf1 ?syf1 ?srf1 ?shf1); (case sgf1 => rfl); (case sof1 => rfl); (case sxf1 => rfl); (case syf1 => rfl); (case srf1 => exact HH.out))
     | ((with_reducible refine step_load (t := 26) (x := .tmp 6) (p := ?lpf2) (v := ?lvf2) ?lgf2 ?lof2 ?lxf2 ?lrf2 ?lhf2); (case lgf2 => rfl); (case lof2 => rfl); (case lxf2 => rfl); (case lrf2 => exact hl2))
     | (go_at_call 33; (with_reducible refine HID.out.mono ?_); rintro e w3 ⟨rfl, hb3⟩; have HHI := Lib.hid (run_holdI w3 y HL.out); have hb4 := heldI_below w3 y; have hb24 := hb3.trans (hb4.mono hb3.size); have hbr4 := HB2.out.trans (hb24.mono HB2.out.size); have HB5 := Lib.hid (HBL.out.trans (hbr4.mono HBL.out.size)); clear hb3 hb4 hb24 hbr4 HID)
     | ((with_reducible refine step_store_run (t := 24) (x := .tmp 7) (y := .tmp 18) (p := ?spg1) (v := ?svg1) (w' := ?swg1) ?sgg1 ?sog1 ?sxg1 ?syg1 ?srg1 ?shg1); (case sgg1 => rfl); (case sog1 => rfl); (case sxg1 => rfl); (case syg1 => rfl); (case srg1 => exact HHI.out)))
    refine bodyPost_ret (results_tmp2 rfl _ _ _) rfl ?_
    exact ⟨fun _ => by rw [HER2.out]; rfl, fun h0 => absurd h0 (by rw [HER2.out]; exact HNE.out), HB5.out⟩
  ·
   obtain rfl : k = n := by omega
   have hall : (hs P).take k = hs P := List.take_of_length_le (by rw [hs_len, ← HNN.out]; exact Nat.le_refl _)
   have HE : Hid (errR (hs P) = 0) := Lib.hid (err_none (by have := HOK.out; rw [hall] at this; exact this))
   have HO2 : Hid (OwnK wr (S ≤ ·) 60 33 (.slice oa k oc) (pls (hs P))) := Lib.hid (by rw [← hall]; exact ho)
   clear hlt ho hbl hall
   go_wp2_with fail
   refine bodyPost_ret (results_tmp2 rfl _ _ _) rfl ?_
   exact ⟨fun h => absurd HE.out h, fun _ => ⟨_, rfl, by rw [← HS.out]; exact HO2.out⟩, HBL.out⟩

/-- the heights, the ids of places -/
def phs (D : List Ky) : List Int := D.map (·.1)
def pis (D : List Ky) : List Id := D.map (·.2)
theorem results_hd1 {fn : Func} {p : Tmp} (h : fn.results = #[.cell p 26]) (tmps : Array Value) (w : World) (g : Nat) (t : TypeId) (o : Hd) (v : Value)
  (hp : tmps.getD p undef = .pointer (some ⟨g, 0, none⟩)) (hg : Blk w g t (hdc o v).toArray) (hr : o.commit.length = 32) :
  (results fn tmps).run Tryz.prog w = .ok (hdv o v) w := by
 have hp' : tmps[p]?.getD undef = .pointer (some ⟨g, 0, none⟩) := by simpa using hp
 have hl := run_loadVar_row w g t 26 (hdc o v).toArray (0, 0) _ hg Tryz.underlying26 rfl (by rw [info_hd, hdc_size o v hr])
 simp [results, h, hp', asAddr, hl, hdv]
def behH (D : List Ky) : Hd := ⟨setL (pis D), aboveL (phs D), [], 0, 0, 0, zid⟩
theorem build_beh (w : World) (ad : Option Addr) (n cap : Nat) (h : Int) : (Instr.build 26 #[(0, .slice ad n cap), (1, .int .i64 h)]).run Tryz.prog w = .ok (hdv ⟨[], h, [], 0, 0, 0, zid⟩ (.slice ad n cap)) w := by kernel_rfl
theorem step_beh {ops : Array Oper} {rest : List Oper} {o : Oper} {a : Act} {w : World} {Q : Exit → Act → World → Prop} {x y : Operand} (D : List Ky) {ad : Option Addr} {n cap : Nat} (hg : o.guard = none)
  (ho : o.op = .build 26 #[(0, x), (1, y)]) (hx : a.eval x = .slice ad n cap) (hy : a.eval y = .int .i64 (aboveL (phs D)))
  (h : wpList Tryz.prog ops Q rest (a.put o.dst (hdv (behH D) (.slice ad n cap))) w) : wpList Tryz.prog ops Q (o :: rest) a w :=
 step_build hg ho (by simp only [List.map_toArray, List.map_cons, List.map_nil, hx, hy]) (build_beh w ad n cap (aboveL (phs D))) h
theorem hdv_par (a b : List Id) (h : Int) (t : List UInt8) (x q z : Int) (c : Id) (u : Value) : hdv ⟨a, h, t, x, q, z, c⟩ u = hdv ⟨b, h, t, x, q, z, c⟩ u := rfl
set_option maxHeartbeats 8000000 in
set_option maxRecDepth 100000 in
theorem behind_any (D : List Ky) (v : Value) (w : World) (hv : RdK w 33 v (D.map plv)) (hD : ∀ x ∈ D, x.2.length = 32) (hn : D.length ≤ 1000) :
  Calls Tryz.prog 28 #[v] w fun e w' => ∃ u, e = .returned (hdv (behH D) u) ∧ OwnI w' (w.heap.size ≤ ·) u (setL (pis D)) ∧ Below w.heap.size w w' := by
 obtain ⟨ad, cap, rfl⟩ := hv.form
 obtain ⟨n, hnn⟩ : ∃ n, n = (D.map plv).length := ⟨_, rfl⟩
 have hnd : n = D.length := by rw [hnn, List.length_map]
 obtain ⟨A, hA⟩ : ∃ S, S = w.heap.size := ⟨_, rfl⟩
 obtain ⟨w1, hw1⟩ : ∃ z, z = w.alloc (.cells (hdc zhd nv).toArray 26) := ⟨_, rfl⟩
 have hb1 : Blk w1 A 26 (hdc zhd nv).toArray := by rw [hw1, hA]; exact Blk.new w _ _
 have hbl : Below w.heap.size w w1 := by rw [hw1]; exact (Below.refl _ _).alloc (Nat.le_refl _) _
 have hv1 := hv.next hbl
 obtain ⟨S, hS⟩ : ∃ S, S = w1.heap.size := ⟨_, rfl⟩
 have HAS : Hid (A < S) := Lib.hid (by rw [hS]; exact hb1.lt)
 have HBLK := Lib.hid hb1
 have HBL := Lib.hid hbl
 have HV := Lib.hid hv1
 have HND := Lib.hid hnd
 have HA := Lib.hid hA
 have HS := Lib.hid hS
 have HW := Lib.hid hw1
 have HD := Lib.hid hD
 have hn : n ≤ 1000 := by omega
 rw [← hnn] at HV ⊢
 clear hv hnn hnd hA hw1 hb1 hbl hv1 hS hD
 go_enter Tryz.func28, Tryz.ntmps28
 go_upto_region 1 with fail
 refine wp_at HW.out.symm ?_
 rw [← HA.out]
 clear HW
 go_wp2_with fail
 go_loopw [3, 4, 9] (fun oi on i wr => ∃ k : Nat, k ≤ n ∧ i = .int .i64 (k : Int) ∧ OwnI wr (S ≤ ·) oi (pis (D.take k)) ∧ OwnC wr (S ≤ ·) 3 on (nums (phs (D.take k))) ∧ Hid (∀ q, oi.ownBlock = some q → on.ownBlock = some q → False) ∧ Below w1.heap.size w1 wr) (fun _ _ i _ => n - (intOf i).toNat)
 case atStart => exact ⟨0, Nat.zero_le _, rfl, OwnI.nil _ _, OwnC.nil _ _ _, Lib.hid (fun q hq => by simp [Value.ownBlock] at hq), Below.refl _ _⟩
 case round =>
  obtain ⟨k, hk, rfl, hi, ho, HSEP, hbl⟩ := hrel
  have k0 : (0 : Int) ≤ (k : Int) := Int.natCast_nonneg _
  have HIN : Hid ((pis (D.take k)).length = k) := Lib.hid (by unfold pis; rw [List.length_map, List.length_take, ← HND.out]; omega)
  have HLN : Hid ((nums (phs (D.take k))).length = k) := Lib.hid (by unfold phs; rw [nums_len, List.length_map, List.length_take, ← HND.out]; omega)
  obtain ⟨oa, oc, hvf⟩ := ho.form
  obtain ⟨ia, ic, hif, -, -⟩ := hi.form
  rw [HLN.out] at hvf
  rw [HIN.out] at hif
  subst hvf
  subst hif
  have HBR := Lib.hid hbl
  have HI := Lib.hid hi
  have HO := Lib.hid ho
  by_cases hlt : k < n
  ·
   have kI : (k : Int) < (n : Int) := by omega
   have hkP : k < D.length := by rw [← HND.out]; exact hlt
   have hv := HV.out.next hbl
   obtain ⟨b, off, rfl, hbb, hcl⟩ := hv.cell (i := k) (by rw [List.length_map]; exact hkP) (by decide)
   obtain ⟨x, hx⟩ : ∃ x, x = D[k] := ⟨_, rfl⟩
   have hx32 : x.2.length = 32 := by rw [hx]; exact HD.out _ (List.getElem_mem hkP)
   have hgx : (D.map plv).getD k [] = plv x := by rw [List.getD_eq_getElem?_getD, List.getElem?_map, List.getElem?_eq_getElem hkP, hx]; rfl
   rw [hgx] at hcl
   have hld := run_load_pl hcl hx32
   have hsn : D.take (k + 1) = D.take k ++ [x] := by rw [hx]; exact List.take_succ_eq_append_getElem hkP
   have HSI : Hid (pis (D.take (k + 1)) = pis (D.take k) ++ [x.2]) := Lib.hid (by rw [hsn]; unfold pis; rw [List.map_append]; rfl)
   have HSO : Hid (nums (phs (D.take (k + 1))) = nums (phs (D.take k)) ++ [.int .i64 x.1]) := Lib.hid (by rw [hsn]; unfold phs; rw [List.map_append, List.map_singleton, nums_snoc])
   have hh := run_holdP wr x hx32
   have hkb := heldP_blk wr x
   have hb2 := heldP_below wr x
   obtain ⟨w2, hw2⟩ : ∃ z, z = heldP wr x := ⟨_, rfl⟩
   rw [← hw2] at hh hkb hb2
   have hl2 := pl_id hkb hx32
   have hi2 := hi.below hb2
   have ho2 := ho.below hb2
   have hSr : S ≤ wr.heap.size := by have h1 := HS.out; have h2 := hbl.size; omega
   have hSr2 : S ≤ w2.heap.size := Nat.le_trans hSr hb2.size
   have hiF : OwnI w2 (fun q => (Value.slice ia k ic).ownBlock = some q ∨ w2.heap.size ≤ q) (.slice ia k ic) (pis (D.take k)) := ⟨hi2.1, hi2.2.1, fun q hq => .inl hq⟩
   obtain ⟨v3, w3, hrun3, hi3, ht3⟩ := run_append_one hiF hx32 (by rw [HIN.out]; omega) (fun q hq => .inr hq) 22
   have hkb3 := hkb.turn ht3 (by
    intro hh
    rcases hh with hh | hh
    ·
     have := hi.2.1.lt _ hh; have := this.2; omega
    ·
     have := hkb.lt; omega)
   have hc3 := pl_height hkb3
   have ho3 := ho2.turn ht3 (fun q hq hh => by
    rcases hh with hh | hh
    ·
     exact HSEP.out q hh hq
    ·
     have := ho2.lt hq; omega)
   have hs3 := ht3.size
   have hs2 := hb2.size
   obtain ⟨v4, w4, hrun4, ho4, ht4⟩ := push_num ho3 x.1 (by rw [HLN.out]; omega)
   have hi4 := hi3.turn ht4 (fun q hq hh => by
    have h2 := (hi3.2.1.lt q hq).2
    rcases hi3.2.2 q hq with h1 | h1
    ·
     rcases hh with hh | hh
     ·
      exact HSEP.out q h1 hh
     ·
      omega
    ·
     rcases hh with hh | hh
     ·
      have := ho2.lt hh; omega
     ·
      omega)
   have HI4 : Hid (OwnI w4 (S ≤ ·) v3 (pis (D.take k) ++ [x.2])) := Lib.hid (hi4.mono fun q hq => by
    show S ≤ q
    rcases hq with hq | hq
    ·
     exact hi.2.2 q hq
    ·
     omega)
   have HO4 : Hid (OwnC w4 (S ≤ ·) 3 v4 (nums (phs (D.take k)) ++ [.int .i64 x.1])) := Lib.hid (ho4.mono fun q hq => by
    show S ≤ q
    rcases hq with hq | hq
    ·
     exact ho.2 q hq
    ·
     omega)
   have HSEP4 : Hid (∀ q, v3.ownBlock = some q → v4.ownBlock = some q → False) := Lib.hid fun q h3 h4 => by
    have h2 := (hi3.2.1.lt q h3).2
    rcases ho4.2 q h4 with h5 | h5
    ·
     rcases hi3.2.2 q h3 with h1 | h1
     ·
      exact HSEP.out q h1 h5
     ·
      have := ho2.lt h5; omega
    ·
     omega
   have HB4 : Hid (Below w1.heap.size w1 w4) := Lib.hid (((hbl.trans (hb2.mono hbl.size)).trans (ht3.below fun q hq => by
    have := HS.out
    rcases hq with hq | hq
    ·
     have := hi.2.2 q hq; show w1.heap.size ≤ q; omega
    ·
     omega)).trans (ht4.below fun q hq => by
    have := HS.out
    rcases hq with hq | hq
    ·
     have := ho.2 q hq; show w1.heap.size ≤ q; omega
    ·
     omega))
   have HH := Lib.hid hh
   have HX := Lib.hid hx32
   clear hi ho HSEP hbl hv hbb hcl hx hx32 hgx hsn hh hkb hb2 hw2 hi2 ho2 hSr hSr2 hiF hi3 ht3 hkb3 ho3 hs3 hs2 ho4 ht4 hi4 hkP
   go_wp2_with (first
    | ((with_reducible refine step_load (t := 60) (x := .tmp 11) (p := ?lph1) (v := ?lvh1) ?lgh1 ?loh1 ?lxh1 ?lrh1 ?lhh1); (case lgh1 => rfl); (case loh1 => rfl); (case lxh1 => rfl); (case lrh1 => exact hld))
    | ((with_reducible refine step_store_run (t := 60) (x := .tmp 6) (y := .tmp 12) (p := ?sph1) (v := ?svh1) (w' := ?swh1) ?sgh1 ?soh1 ?sxh1 ?syh1 ?srh1 ?shh1); (case sgh1 => rfl); (case soh1 => rfl); (case sxh1 => rfl); (case syh1 => rfl); (case srh1 => exact HH.out))
    | ((with_reducible refine step_load (t := 24) (x := .tmp 14) (p := ?lpi1) (v := ?lvi1) ?lgi1 ?loi1 ?lxi1 ?lri1 ?lhi1); (case lgi1 => rfl); (case loi1 => rfl); (case lxi1 => rfl); (case lri1 => exact hl2))
    | ((with_reducible refine step_build1 (x := .tmp 15) (y := ?byh1) ?bgh1 ?boh1 ?bxh1 ?blh1 ?bhh1); (case bgh1 => rfl); (case boh1 => rfl); (case bxh1 => rfl); (case blh1 => exact HX.out))
    | ((with_reducible refine step_append (s := .tmp 13) (x := .tmp 16) (t := 22) (vs := ?ash1) (vx := ?axh1) (v' := ?avh1) (w' := ?awh1) ?agh1 ?aoh1 ?aph1 ?aqh1 ?arh1 ?ahh1); (case agh1 => rfl); (case aoh1 => rfl); (case aph1 => rfl); (case aqh1 => rfl); (case arh1 => exact hrun3))
    | ((with_reducible refine step_append (s := .tmp 18) (x := .tmp 21) (t := 50) (vs := ?asi1) (vx := ?axi1) (v' := ?avi1) (w' := ?awi1) ?agi1 ?aoi1 ?api1 ?aqi1 ?ari1 ?ahi1); (case agi1 => rfl); (case aoi1 => rfl); (case api1 => rfl); (case aqi1 => rfl); (case ari1 => exact hrun4)))
   go_roundw
   case rel => exact ⟨k + 1, hlt, by push_cast; rfl, by rw [HSI.out]; exact HI4.out, by rw [HSO.out]; exact HO4.out, HSEP4, HB4.out⟩
   case measure => simp [intOf]; omega
  ·
   obtain rfl : k = n := by omega
   have hall : D.take k = D := List.take_of_length_le (by rw [← HND.out]; exact Nat.le_refl _)
   rw [hall] at hi ho HIN HLN
   have hset := set_any (pis D) _ wr (hi.rdv (by rw [HIN.out]; omega)).1 (by rw [HIN.out]; omega)
   have HAB := Lib.hid (fun u (hb : Below wr.heap.size wr u) => above_any (phs D) _ u ((ho.rdc (by rw [HLN.out]; omega)).1.next hb) (by have := HLN.out; rw [nums_len] at this; omega))
   have hblk := HBLK.out.below hbl HBLK.out.lt
   have HSET := Lib.hid hset
   have HBK := Lib.hid hblk
   have HRS : Hid (w.heap.size ≤ wr.heap.size) := Lib.hid (by have := hbl.size; have := HBL.out.size; omega)
   clear hlt hi ho hbl hall HIN HLN hset hblk HSEP
   go_wp2_with (first
    | (go_at_call 39; go_loud ((with_reducible refine HSET.out.mono ?_); rintro e w2 ⟨v2, rfl, hO, hb2⟩; obtain ⟨sa, sc, hsf, -, -⟩ := hO.form; obtain ⟨sl, hsl⟩ : ∃ q, q = (setL (pis D)).length := ⟨_, rfl⟩; rw [← hsl] at hsf; subst hsf; have hst := run_store_hd (HBK.out.below hb2 HBK.out.lt) (hdc_size _ _ zcom) (behH D) (.slice sa sl sc) zid32 rfl; have hbk2 : Blk (w2.setRow A (hdc (behH D) (.slice sa sl sc)).toArray) A 26 (hdc (behH D) (.slice sa sl sc)).toArray := setRow_heap _ _ _ _ _ _ (HBK.out.below hb2 HBK.out.lt); have HST := Lib.hid hst; have HBK2 := Lib.hid hbk2; have HO2 := Lib.hid hO; have HB2 := Lib.hid hb2; clear hsl hst hbk2 hO hb2 HSET))
    | (go_at_call 22; (with_reducible refine (HAB.out _ HB2.out).mono ?_); rintro e w3 ⟨rfl, rfl⟩)
    | ((with_reducible refine step_beh (x := .tmp 25) (y := .tmp 27) D ?beg ?beo ?bex ?bey ?beh); (case beg => rfl); (case beo => rfl); (case bex => rfl); (case bey => rfl))
    | ((with_reducible refine step_store_run (t := 26) (x := .tmp 2) (y := .tmp 28) (p := ?spk1) (v := ?svk1) (w' := ?swk1) ?sgk1 ?sok1 ?sxk1 ?syk1 ?srk1 ?shk1); (case sgk1 => rfl); (case sok1 => rfl); (case sxk1 => rfl); (case syk1 => rfl); (case srk1 => exact HST.out)))
   refine bodyPost_ret (results_hd1 rfl _ _ A _ (behH D) (.slice sa sl sc) rfl HBK2.out zid32) rfl ?_
   have hA := HA.out
   refine ⟨_, rfl, ?_, ?_⟩
   ·
    refine (HO2.out.turn (turn_row _ A _) fun q hq hh => ?_).mono fun q hq => ?_
    ·
     have := HO2.out.2.2 q hq
     have := HRS.out
     have := HBK.out.lt
     omega
    ·
     have := HRS.out
     show w.heap.size ≤ q
     omega
   ·
    exact below_row' ((HBL.out.trans (HBR.out.mono HBL.out.size)).trans (HB2.out.mono HRS.out)) (Nat.le_of_eq hA.symm) _
end Go.Proofs.YtpeneeddfgmjpaaGreatDoor.rul

namespace Go.Proofs.YtpeneeddfgmjpaaGreatDoor.plc
open Go.Shelf Go.Proofs
def ren : Ren := ⟨fun | 6 => 26 | 14 => 36 | 15 => 37 | 20 => 58 | 21 => 59 | 22 => 60 | 23 => 61 | 24 => 62 | 25 => 63 | 26 => 64 | 27 => 65 | 28 => 66 | 29 => 67 | 46 => 88 | 47 => 89 | 48 => 90 | 49 => 91 | 50 => 92 | 57 => 112 | n => n, fun | 0 => 0 | 3 => 3 | 4 => 4 | 5 => 5 | 9 => 9 | 22 => 55 | 24 => 60 | 25 => 61 | 39 => 68 | 45 => 90 | 46 => 91 | 50 => 51 | 53 => 97 | 55 => 99 | 66 => 122 | 70 => 126 | 76 => 159 | 77 => 160 | n => n, fun n => n⟩
theorem lays : SlLaysF0.n6 Tryz.prog ren := {
 mixed := by kernel_rfl,
 f6 := ⟨Tryz.f26.name, by kernel_rfl, Tryz.func26.trans (congrArg some (by kernel_rfl))⟩,
 f14 := ⟨Tryz.f36.name, by kernel_rfl, Tryz.func36.trans (congrArg some (by kernel_rfl))⟩,
 f15 := Tryz.func37.trans (congrArg some (by kernel_rfl)),
 f20 := ⟨Tryz.f58.name, by kernel_rfl, Tryz.func58.trans (congrArg some (by kernel_rfl))⟩,
 f21 := ⟨Tryz.f59.name, by kernel_rfl, Tryz.func59.trans (congrArg some (by kernel_rfl))⟩,
 f22 := ⟨Tryz.f60.name, by kernel_rfl, Tryz.func60.trans (congrArg some (by kernel_rfl))⟩,
 f23 := ⟨Tryz.f61.name, by kernel_rfl, Tryz.func61.trans (congrArg some (by kernel_rfl))⟩,
 f24 := ⟨Tryz.f62.name, by kernel_rfl, Tryz.func62.trans (congrArg some (by kernel_rfl))⟩,
 f25 := ⟨Tryz.f63.name, by kernel_rfl, Tryz.func63.trans (congrArg some (by kernel_rfl))⟩,
 f26 := ⟨Tryz.f64.name, by kernel_rfl, Tryz.func64.trans (congrArg some (by kernel_rfl))⟩,
 f27 := ⟨Tryz.f65.name, by kernel_rfl, Tryz.func65.trans (congrArg some (by kernel_rfl))⟩,
 f28 := Tryz.func66.trans (congrArg some (by kernel_rfl)),
 f29 := Tryz.func67.trans (congrArg some (by kernel_rfl)),
 f46 := ⟨Tryz.f88.name, by kernel_rfl, Tryz.func88.trans (congrArg some (by kernel_rfl))⟩,
 f47 := Tryz.func89.trans (congrArg some (by kernel_rfl)),
 f48 := Tryz.func90.trans (congrArg some (by kernel_rfl)),
 f49 := ⟨Tryz.f91.name, by kernel_rfl, Tryz.func91.trans (congrArg some (by kernel_rfl))⟩,
 f50 := ⟨Tryz.f92.name, by kernel_rfl, Tryz.func92.trans (congrArg some (by kernel_rfl))⟩,
 f57 := ⟨Tryz.f112.name, by kernel_rfl, Tryz.func112.trans (congrArg some (by kernel_rfl))⟩,
 t0 := Tryz.underlying0,
 a0 := Tryz.isAgg0,
 z0 := Tryz.sizeOf0,
 v0 := Tryz.zeroValue0,
 t3 := Tryz.underlying3,
 a3 := Tryz.isAgg3,
 z3 := Tryz.sizeOf3,
 v3 := Tryz.zeroValue3,
 t4 := Tryz.underlying4,
 a4 := Tryz.isAgg4,
 z4 := Tryz.sizeOf4,
 v4 := Tryz.zeroValue4,
 t5 := Tryz.underlying5,
 a5 := Tryz.isAgg5,
 z5 := Tryz.sizeOf5,
 v5 := Tryz.zeroValue5,
 t9 := Tryz.underlying9,
 a9 := Tryz.isAgg9,
 z9 := Tryz.sizeOf9,
 v9 := Tryz.zeroValue9,
 t22 := Tryz.underlying55,
 a22 := Tryz.isAgg55,
 z22 := Tryz.sizeOf55,
 v22 := Tryz.zeroValue55,
 t25 := Tryz.underlying61,
 a25 := Tryz.isAgg61,
 z25 := Tryz.sizeOf61,
 v25 := Tryz.zeroValue61,
 t39 := Tryz.underlying68,
 a39 := Tryz.isAgg68,
 z39 := Tryz.sizeOf68,
 v39 := Tryz.zeroValue68,
 t45 := Tryz.underlying90,
 a45 := Tryz.isAgg90,
 z45 := Tryz.sizeOf90,
 v45 := Tryz.zeroValue90,
 t46 := Tryz.underlying91,
 a46 := Tryz.isAgg91,
 z46 := Tryz.sizeOf91,
 v46 := Tryz.zeroValue91,
 t50 := Tryz.underlying51,
 a50 := Tryz.isAgg51,
 z50 := Tryz.sizeOf51,
 v50 := Tryz.zeroValue51,
 t53 := Tryz.underlying97,
 a53 := Tryz.isAgg97,
 z53 := Tryz.sizeOf97,
 v53 := Tryz.zeroValue97,
 t55 := Tryz.underlying99,
 a55 := Tryz.isAgg99,
 z55 := Tryz.sizeOf99,
 v55 := Tryz.zeroValue99,
 t66 := Tryz.underlying122,
 a66 := Tryz.isAgg122,
 z66 := Tryz.sizeOf122,
 v66 := Tryz.zeroValue122,
 t70 := Tryz.underlying126,
 a70 := Tryz.isAgg126,
 z70 := Tryz.sizeOf126,
 v70 := Tryz.zeroValue126,
 t76 := Tryz.underlying159,
 a76 := Tryz.isAgg159,
 z76 := Tryz.sizeOf159,
 v76 := Tryz.zeroValue159,
 t77 := Tryz.underlying160,
 a77 := Tryz.isAgg160,
 z77 := Tryz.sizeOf160,
 v77 := Tryz.zeroValue160 }
end Go.Proofs.YtpeneeddfgmjpaaGreatDoor.plc

namespace Go.Proofs.YtpeneeddfgmjpaaGreatDoor.rul
open Go.RowKit Go.Proofs.YtpeneeddfgmjpaaGreatDoor.mem Go.Proofs.YtpeneeddfgmjpaaGreatDoor.sha Go.Proofs.YtpeneeddfgmjpaaGreatDoor.ids Go.Proofs.YtpeneeddfgmjpaaGreatDoor.rows Go.Proofs.YtpeneeddfgmjpaaGreatDoor.hdr Go.Proofs.YtpeneeddfgmjpaaGreatDoor.hds
open Go.Sort (grow heap_grow_old size_grow PermIn SortedIn putRowK putRow mapBlock HoldsK flatK size_flatK get_flatK)
open Go.Proofs.YtpeneeddfgmjpaaGreatDoor.opn (zid)

/-- places with ids that are ids -/
def p32 (h : Hd) : P32 := (h.height, ⟨(idH h).1, idH_len h⟩)
theorem kyp_p32 (h : Hd) : kyp (p32 h) = ky (h, (idH h).1) := rfl
theorem kys_of (K : List Hd) : (K.map p32).map kyp = (pairs K).map ky := by unfold pairs; rw [List.map_map, List.map_map]; rfl
theorem pls_of (K : List Hd) : pls K = (K.map p32).map encP := by unfold pls pairs; rw [List.map_map, List.map_map]; rfl
theorem encs_of (D : List P32) : D.map encP = (D.map kyp).map plv := by rw [List.map_map]; rfl

theorem sort_below {B : Nat} (w : World) (g m : Nat) (d : Array P32) (os : Array Obj) (hB : B ≤ w.heap.size) (hg : B ≤ g) : RowKit.Below B w (sortWorldK encP 33 w g 0 m d os) := by
 have hs : (putRowK encP 33 (Go.Sort.ahead w m) g 0 d).heap.size = w.heap.size := Go.Sort.size_putRowK ..
 refine ⟨rfl, rfl, rfl, ?_, fun k hk => ?_⟩
 ·
  exact Go.Proofs.size_sortWorldK_c encP 33 w g 0 m d os
 ·
  unfold sortWorldK
  rw [heap_grow_old _ os (by rw [hs]; omega)]
  unfold putRowK Go.Sort.putRow Go.Sort.mapBlock
  show (w.heap.modify g _)[k]? = w.heap[k]?
  rw [Array.getElem?_modify, if_neg (by omega)]

theorem info_len (w : World) : Calls Tryz.prog 37 #[.int .u64 0] w fun e w' => e = .returned (.int .i64 0) ∧ w' = w := by
 have h := Any.bits_Len (SlLaysF0.n15.bits (P := Tryz.prog) (ρ := plc.ren) { plc.lays with }) 0 w (by omega) (by omega)
 exact h
set_option maxHeartbeats 2000000 in
set_option maxRecDepth 100000 in
theorem ins_nil (f : Value) (w : World) : Calls Tryz.prog 58 #[.slice none 0 0, .int .i64 0, .int .i64 0, f] w fun e w' => e = .returned (.tuple #[]) ∧ w' = w := by
 go_enter Tryz.func58, Tryz.ntmps58
 go_wp2_with fail
 refine wp_loop_rounds 1 ?_
 rw [rounds_succ]
 go_wp2_with fail
 (try simp only [Exit.inBlock, Exit.then])
 (try (refine bodyPost_ret (results_none rfl _ _ _) rfl ?_))
 (try go_end0)
 exact ⟨rfl, rfl⟩
set_option maxHeartbeats 2000000 in
set_option maxRecDepth 100000 in
theorem pdq_nil (f : Value) (w : World) : Calls Tryz.prog 36 #[.slice none 0 0, .int .i64 0, .int .i64 0, .int .i64 0, f] w fun e w' => e = .returned (.tuple #[]) ∧ w' = w := by
 have hi := ins_nil f w
 go_enter Tryz.func36, Tryz.ntmps36
 go_wp2_with fail
 refine wp_loop_rounds 1 ?_
 rw [rounds_succ]
 go_wp2_with (go_at_call 58; (with_reducible refine hi.mono ?_); rintro e w' ⟨rfl, rfl⟩)
 (try simp only [Exit.inBlock, Exit.then])
 (try (refine bodyPost_ret (results_none rfl _ _ _) rfl ?_))
 exact ⟨rfl, rfl⟩
set_option maxHeartbeats 2000000 in
set_option maxRecDepth 100000 in
theorem sort_nil (f : Value) (w : World) : Calls Tryz.prog 26 #[.slice none 0 0, f] w fun e w' => e = .returned (.tuple #[]) ∧ w' = w := by
 have hl := info_len w
 have hp := pdq_nil f w
 go_enter Tryz.func26, Tryz.ntmps26
 go_wp2_with (first
  | (go_at_call 37; (with_reducible refine hl.mono ?_); rintro e w' ⟨rfl, rfl⟩)
  | (go_at_call 36; (with_reducible refine hp.mono ?_); rintro e w' ⟨rfl, rfl⟩))
 go_end0
 exact ⟨rfl, rfl⟩

theorem against_enters : ∀ args w, (callFunc 27 args).run Tryz.prog w = .ok (.enter 27 args) w := enters_of Tryz.func27 (by kernel_rfl) rfl
/-- the places of headers, sorted -/
def SortOut (B : Nat) (w : World) (v : Value) (K : List Hd) (e : Ending) (w' : World) : Prop :=
 e = .returned (.tuple #[]) ∧ ∃ D : List Ky, D.Perm ((pairs K).map ky) ∧ D.Pairwise (fun x y => aheadK y x = false) ∧ (∀ x ∈ D, x.2.length = 32) ∧ RdK w' 33 v (D.map plv) ∧ RowKit.Below B w w'
theorem sort_any (B : Nat) (v : Value) (K : List Hd) (w : World) (ho : OwnK w (B ≤ ·) 60 33 v (pls K)) (hB : B ≤ w.heap.size) (hK : K.length ≤ 1000) :
  Calls Tryz.prog 26 #[v, .func (.func 27) #[] #[]] w fun e w' => SortOut B w v K e w' := by
 rcases ho.2.1.2 with ⟨rfl, hn⟩ | ⟨g, cap, cur, rfl, hb, hh, hle, hcm, hcs, htk⟩
 ·
  have hK0 : K = [] := List.eq_nil_of_length_eq_zero (by rw [pls_len] at hn; exact hn)
  subst hK0
  refine (sort_nil _ w).mono ?_
  rintro e w' ⟨rfl, rfl⟩
  exact ⟨rfl, [], List.Perm.refl _, List.Pairwise.nil, (fun x hx => by cases hx), RdK.nil _ _, RowKit.Below.refl _ _⟩
 ·
  obtain ⟨d, hd⟩ : ∃ d : Array P32, d = (K.map p32).toArray := ⟨_, rfl⟩
  have hdl : d.toList = K.map p32 := by rw [hd]
  have hds : d.size = K.length := by rw [hd]; simp
  have hlen : (pls K).length = d.size := by rw [pls_len, hds]
  have hgB : B ≤ g := ho.2.2 g rfl
  have hgw : g < w.heap.size := (ho.2.1.lt g rfl).2
  have hH : HoldsK encP 33 w g 0 d := fun j hj => by
   rw [size_flatK] at hj
   have hi : j / 33 < d.size := Nat.div_lt_of_lt_mul (by omega)
   have hm : j % 33 < 33 := Nat.mod_lt _ (by decide)
   have he : (pls K).getD (j / 33) [] = encP d[j / 33]! := by
    rw [pls_of, ← hdl, List.getD_eq_getElem?_getD, List.getElem?_map, List.getElem?_eq_getElem (by simpa using hi), getElem!_pos d _ hi]
    rfl
   have hel : j % 33 < (encP d[j / 33]!).length := by rw [encP_len]; exact hm
   have hc := ho.cell (i := j / 33) (j := j % 33) (by rw [hlen]; exact hi) hm (u := (encP d[j / 33]!)[j % 33]!) (by rw [he, List.getElem?_eq_getElem hel, getElem!_pos (encP d[j / 33]!) _ hel])
   rw [Nat.div_add_mod' j 33] at hc
   refine ⟨?_, ?_⟩
   ·
    rw [Nat.zero_add, get_flatK _ _ _ _ hj]
    exact hc
   ·
    rw [Nat.zero_add]
    exact ho.frozen j
  have hcon := AnyQ.slices_SortFunc plc.lays 33 (fun w => agg_pl w) (fun w => Tryz.sizeOf60 w) encP encP_len (fun x => plv_one _) cfP swo_p 27 #[] g 0 cap d w against_enters (cmp_lays g 0 d.size w) hH hgw (by omega)
  rw [hlen]
  refine hcon.mono ?_
  rintro e w' ⟨rfl, d', m, os, hp, hs, rfl⟩
  have hsz : d'.size = d.size := hp.1
  have hpm : d'.toList.Perm d.toList := by
   have := hp.2.2
   rw [← hsz] at this
   rw [Array.extract_size, hsz, Array.extract_size] at this
   exact this
  have hW := Go.Proofs.holdsK_sortWorldK_c encP 33 w g 0 d d' m os hH hgw hsz
  refine ⟨rfl, d'.toList.map kyp, ?_, ?_, ?_, ?_, sort_below w g m d' os hB hgB⟩
  ·
   rw [← kys_of, ← hdl]
   exact hpm.map kyp
  ·
   rw [List.pairwise_map, List.pairwise_iff_getElem]
   intro i j hi hj hij
   have := hs i j (Nat.zero_le _) hij (by simp at hj; omega)
   rw [lt_cf] at this
   simp at hi hj
   rw [getElem!_pos d' j hj, getElem!_pos d' i hi] at this
   simpa using this
  ·
   intro x hx
   obtain ⟨p, _, rfl⟩ := List.mem_map.1 hx
   exact p.2.2
  ·
   rw [← encs_of]
   have hu : Uni 33 (d'.toList.map encP) := fun x hx => by
    obtain ⟨p, _, rfl⟩ := List.mem_map.1 hx
    exact ⟨encP_len p, plv_one _⟩
   have hl' : (d'.toList.map encP).length = d.size := by simp [hsz]
   refine ⟨hu, by rw [hl']; omega, some ⟨g, 0, none⟩, cap, by rw [hl'], by rw [hl', ← hlen]; exact hle, hcm, (fun h => by cases h), (fun a ha _ => ⟨g, 0, (Option.some.inj ha).symm⟩), .inr ⟨g, 0, rfl, Nat.lt_of_lt_of_le hgw (Go.Proofs.size_sortWorldK_c encP 33 w g 0 m d' os), fun k y hy => ?_⟩⟩
   have hkl : k < (d'.toList.map encP).flatten.length := by
    rcases Nat.lt_or_ge k (d'.toList.map encP).flatten.length with h | h
    ·
     exact h
    ·
     rw [List.getElem?_eq_none h] at hy; cases hy
   rw [hu.len, hl'] at hkl
   have hi : k / 33 < d'.size := Nat.div_lt_of_lt_mul (by omega)
   have hm : k % 33 < 33 := Nat.mod_lt _ (by decide)
   have h1 := (hW k (by rw [size_flatK]; omega)).1
   rw [get_flatK _ _ _ _ (by omega)] at h1
   rw [h1]
   have h2 := hu.get (i := k / 33) (j := k % 33) (by rw [hl']; omega) hm
   have hq : d'.toList[k / 33]? = some d'[k / 33] := by rw [List.getElem?_eq_getElem (by simpa using hi)]; rfl
   rw [Nat.div_add_mod' k 33, hy, List.getD_eq_getElem?_getD, List.getElem?_map, hq] at h2
   have hel : k % 33 < (encP d'[k / 33]!).length := by rw [encP_len]; exact hm
   have h3 : (encP d'[k / 33]!)[k % 33]? = some y := by
    rw [getElem!_pos d' _ hi]
    exact h2.symm
   rw [List.getElem?_eq_getElem hel] at h3
   show some ((encP d'[k / 33]!)[k % 33]!) = some y
   rw [getElem!_pos (encP d'[k / 33]!) _ hel]
   exact h3
end Go.Proofs.YtpeneeddfgmjpaaGreatDoor.rul

namespace Go.Proofs.YtpeneeddfgmjpaaGreatDoor.rul
open Go.RowKit Go.Proofs.YtpeneeddfgmjpaaGreatDoor.mem Go.Proofs.YtpeneeddfgmjpaaGreatDoor.sha Go.Proofs.YtpeneeddfgmjpaaGreatDoor.ids Go.Proofs.YtpeneeddfgmjpaaGreatDoor.rows Go.Proofs.YtpeneeddfgmjpaaGreatDoor.hdr Go.Proofs.YtpeneeddfgmjpaaGreatDoor.hds Go.Proofs.YtpeneeddfgmjpaaGreatDoor.mpk
open Go.Proofs.YtpeneeddfgmjpaaGreatDoor.opn (zid)

def hts (K : List Hd) : List Int := K.map (·.height)
set_option maxHeartbeats 8000000 in
set_option maxRecDepth 100000 in
theorem height_any (v : Value) (P : HP) (w : World) (hv : HsV w v P) (hn : P.length ≤ 1000) :
  Calls Tryz.prog 13 #[v] w fun e w' => e = .returned (.int .i64 (heightR (hs P))) ∧ Below w.heap.size w w' := by
 obtain ⟨ad, cap, rfl⟩ := hv.form
 obtain ⟨n, hnn⟩ : ∃ n, n = P.length := ⟨_, rfl⟩
 obtain ⟨S, hS⟩ : ∃ S, S = w.heap.size := ⟨_, rfl⟩
 have HV := Lib.hid hv
 have HNN := Lib.hid hnn
 have HS := Lib.hid hS
 rw [← hnn] at hn HV ⊢
 clear hv hnn hS
 go_enter Tryz.func13, Tryz.ntmps13
 go_wp2_with fail
 go_loopw [3, 8] (fun o i wr => ∃ k : Nat, k ≤ n ∧ i = .int .i64 (k : Int) ∧ OwnC wr (S ≤ ·) 3 o (nums (hts ((hs P).take k))) ∧ Below w.heap.size w wr) (fun _ i _ => n - (intOf i).toNat)
 case atStart => exact ⟨0, Nat.zero_le _, rfl, OwnC.nil _ _ _, Below.refl _ _⟩
 case round =>
  obtain ⟨k, hk, rfl, ho, hbl⟩ := hrel
  have k0 : (0 : Int) ≤ (k : Int) := Int.natCast_nonneg _
  obtain ⟨oa, oc, hvf⟩ := ho.form
  have HBL := Lib.hid hbl
  have HLN : Hid ((nums (hts ((hs P).take k))).length = k) := Lib.hid (by unfold hts; rw [nums_len, List.length_map, List.length_take, hs_len, ← HNN.out]; omega)
  rw [HLN.out] at hvf
  subst hvf
  have HO := Lib.hid ho
  by_cases hlt : k < n
  ·
   have kI : (k : Int) < (n : Int) := by omega
   have hkP : k < P.length := by rw [← HNN.out]; exact hlt
   have hv := HV.out.next hbl
   obtain ⟨b, off, rfl, hbb, hld, -, -, -⟩ := hv.at_ hkP
   have hld := hld 0
   have hin := hv.2.get hkP
   have hsn := take_hs_succ hkP
   obtain ⟨x, hx⟩ : ∃ x, x = (P.getD k zhp).1 := ⟨_, rfl⟩
   obtain ⟨u, hu⟩ : ∃ u, u = (P.getD k zhp).2 := ⟨_, rfl⟩
   rw [← hx, ← hu] at hld hin
   rw [← hx] at hsn
   have hh := run_hold wr x u hin.2 (rdv_one hin.1)
   have hkb := held_blk wr x u
   have hb2 := held_below wr x u
   obtain ⟨w2, hw2⟩ : ∃ z, z = heldW wr x u := ⟨_, rfl⟩
   rw [← hw2] at hh hkb hb2
   have c1 := (HdBlk.of hkb hin.2).height
   obtain ⟨z, hz⟩ : ∃ z, z = x.height := ⟨_, rfl⟩
   rw [← hz] at c1
   have ho2 := ho.below hb2
   obtain ⟨v4, w4, hrun, ho4, ht4⟩ := push_num ho2 z (by rw [HLN.out]; omega)
   obtain ⟨hv0, hhv⟩ : ∃ z, z = hdv x u := ⟨_, rfl⟩
   rw [← hhv] at hld hh
   have HSN : Hid (nums (hts ((hs P).take (k + 1))) = nums (hts ((hs P).take k)) ++ [.int .i64 z]) := Lib.hid (by rw [hsn, hz]; unfold hts; rw [List.map_append, List.map_singleton, nums_snoc])
   have HH := Lib.hid hh
   have HB2 := Lib.hid hb2
   have HO2 := Lib.hid ho2
   have HO4 := Lib.hid ho4
   have HT4 := Lib.hid ht4
   clear ho hbl hv hbb hin hsn hx hu hh hkb hb2 hw2 hz ho2 ho4 ht4 hhv hkP
   go_wp2_with (first
    | ((with_reducible refine step_load (t := 26) (x := .tmp 10) (p := ?lpa1) (v := ?lva1) ?lga1 ?loa1 ?lxa1 ?lra1 ?lha1); (case lga1 => rfl); (case loa1 => rfl); (case lxa1 => rfl); (case lra1 => exact hld))
    | ((with_reducible refine step_store_run (t := 26) (x := .tmp 5) (y := .tmp 11) (p := ?spa1) (v := ?sva1) (w' := ?swa1) ?sga1 ?soa1 ?sxa1 ?sya1 ?sra1 ?sha1); (case sga1 => rfl); (case soa1 => rfl); (case sxa1 => rfl); (case sya1 => rfl); (case sra1 => exact HH.out))
    | ((with_reducible refine step_append (s := .tmp 12) (x := .tmp 15) (t := 50) (vs := ?asa1) (vx := ?axa1) (v' := ?ava1) (w' := ?awa1) ?aga1 ?aoa1 ?apa1 ?aqa1 ?ara1 ?aha1); (case aga1 => rfl); (case aoa1 => rfl); (case apa1 => rfl); (case aqa1 => rfl); (case ara1 => exact hrun)))
   go_roundw
   case rel =>
    have hS := HS.out
    have hs1 := HBL.out.size
    have hs2 := HB2.out.size
    refine ⟨k + 1, hlt, by push_cast; rfl, ?_, ?_⟩
    ·
     rw [HSN.out]
     refine HO4.out.mono fun b hb => ?_
     rcases hb with hb | hb
     ·
      exact HO2.out.2 b hb
     ·
      show S ≤ b; omega
    ·
     refine (HBL.out.trans (HB2.out.mono HBL.out.size)).trans (HT4.out.below fun b hb => ?_)
     rcases hb with hb | hb
     ·
      have := HO2.out.2 b hb; show w.heap.size ≤ b; omega
     ·
      show w.heap.size ≤ b; omega
   case measure => simp [intOf]; omega
  ·
   obtain rfl : k = n := by omega
   have hab := above_any (hts ((hs P).take k)) _ wr (ho.rdc (by rw [HLN.out]; omega)).1 (by have := HLN.out; rw [nums_len] at this; omega)
   have HE : Hid (aboveL (hts ((hs P).take k)) = heightR (hs P)) := Lib.hid (by
    rw [List.take_of_length_le (by rw [hs_len, ← HNN.out]; exact Nat.le_refl _)]; exact above_height _)
   rw [HE.out] at hab
   have HAB := Lib.hid hab
   clear hlt ho hbl hab
   go_wp2_with (first
    | (go_at_call 22; (with_reducible refine HAB.out.mono ?_); rintro e w2 ⟨rfl, rfl⟩))
   go_ret
   exact ⟨rfl, HBL.out⟩

set_option maxHeartbeats 8000000 in
set_option maxRecDepth 100000 in
theorem unknown_any (h : Hd) (u v : Value) (P : HP) (w : World) (hT : Tabs w) (hr : h.commit.length = 32) (hu : RdV w u h.parents) (hm : h.parents.length ≤ 1000) (hv : HsV w v P) (hf : Few P) (hn : P.length ≤ 1000) :
  Calls Tryz.prog 11 #[hdv h u, v] w fun e w' => ∃ o, e = .returned o ∧ RdV w' o (unknownR h (hs P)) ∧ Below w.heap.size w w' := by
 obtain ⟨ad, cap, rfl⟩ := hu.form
 obtain ⟨va, vc, rfl⟩ := hv.form
 obtain ⟨X, hX⟩ : ∃ S, S = w.heap.size := ⟨_, rfl⟩
 obtain ⟨w1, hw1⟩ : ∃ z, z = w.alloc (.cells (hdc h (.slice ad h.parents.length cap)).toArray 26) := ⟨_, rfl⟩
 have hb1 : Blk w1 X 26 (hdc h (.slice ad h.parents.length cap)).toArray := by rw [hw1, hX]; exact Blk.new w _ _
 have hbl : Below w.heap.size w w1 := by rw [hw1]; exact (Below.refl _ _).alloc (Nat.le_refl _) _
 have hht := heights_any _ P w1 (hT.next hbl) (hv.next hbl) hf hn
 obtain ⟨pl, hpl⟩ : ∃ n, n = P.length := ⟨_, rfl⟩
 obtain ⟨n, hnn⟩ : ∃ n, n = h.parents.length := ⟨_, rfl⟩
 rw [← hpl] at hht ⊢
 rw [← hnn] at hb1 hw1 hm hu ⊢
 have HB1 := Lib.hid hb1
 have HBL := Lib.hid hbl
 have HHT := Lib.hid hht
 have HU := Lib.hid hu
 have HW := Lib.hid hw1
 have HXX := Lib.hid hX
 have HR := Lib.hid hr
 have HNN := Lib.hid hnn
 obtain ⟨c, hc⟩ : ∃ c, c = (hdc h (.slice ad n cap)).toArray := ⟨_, rfl⟩
 have HC := Lib.hid hc
 unfold hdv
 rw [← hc] at HB1 HW ⊢
 clear hb1 hbl hht hw1 hX hv hu hr hnn hc hT hpl
 go_enter Tryz.func11, Tryz.ntmps11
 go_upto_region 1 with fail
 refine wp_at HW.out.symm ?_
 rw [← HXX.out]
 clear HW
 go_upto_region 3 with (first
  | (go_at_call 21; (with_reducible refine HHT.out.mono ?_); rintro e w2 ⟨M, rfl, hM, htb, hb2⟩))
 have hx2 := HB1.out.below hb2 HB1.out.lt
 have c0 : w2.cell? ⟨X, 0, none⟩ = some (.slice ad n cap) := (HdBlk.of (HC.out ▸ hx2) HR.out).parents
 obtain ⟨S, hS⟩ : ∃ S, S = w2.heap.size := ⟨_, rfl⟩
 have HS := Lib.hid hS
 have HTB := Lib.hid htb
 have HMS : Hid (M < S) := Lib.hid (by rw [hS]; exact htb.lt)
 have HBW := Lib.hid (HBL.out.trans (hb2.mono HBL.out.size))
 have HT0 : Hid (Turn (S ≤ ·) w2 w2) := Lib.hid (Turn.refl _ _)
 clear hx2 hM htb hb2 hS HHT
 go_wp2_with fail
 clear c0
 go_loopw [6, 16] (fun o i wr => ∃ k : Nat, k ≤ n ∧ i = .int .i64 (k : Int) ∧ OwnI wr (S ≤ ·) o ((h.parents.take k).filter fun p => !knows (hs P) p) ∧ Turn (S ≤ ·) w2 wr) (fun _ i _ => n - (intOf i).toNat)
 case atStart => exact ⟨0, Nat.zero_le _, rfl, OwnI.nil _ _, HT0.out⟩
 case round =>
  clear HT0
  obtain ⟨k, hk, rfl, ho, ht⟩ := hrel
  have k0 : (0 : Int) ≤ (k : Int) := Int.natCast_nonneg _
  have hbr : Below w2.heap.size w2 wr := ht.below fun b hb => (show w2.heap.size ≤ b by rw [← HS.out]; exact hb)
  have HT := Lib.hid ht
  have HBR := Lib.hid (HBW.out.trans (hbr.mono HBW.out.size))
  obtain ⟨L, hL⟩ : ∃ L, L = (h.parents.take k).filter fun p => !knows (hs P) p := ⟨_, rfl⟩
  have hLl : L.length ≤ 1000 := by rw [hL]; exact Nat.le_trans (List.length_filter_le _ _) (by rw [List.length_take]; omega)
  rw [← hL] at ho
  have HLL := Lib.hid hLl
  have HL := Lib.hid hL
  have HO := Lib.hid ho
  obtain ⟨oa, oc, hvf, -, -⟩ := ho.form
  obtain ⟨ll, hll⟩ : ∃ l, l = L.length := ⟨_, rfl⟩
  rw [← hll] at hvf
  subst hvf
  by_cases hlt : k < n
  ·
   have kI : (k : Int) < (n : Int) := by omega
   have hkP : k < h.parents.length := by rw [← HNN.out]; exact hlt
   have hu := HU.out.next HBR.out
   obtain ⟨b, off, rfl, hbb, hbl2, hld⟩ := hu.load hkP
   have hld := hld 0
   obtain ⟨y, hy⟩ : ∃ y, y = h.parents.getD k [] := ⟨_, rfl⟩
   have hy32 : y.length = 32 := by rw [hy]; exact hu.ok.get hkP
   rw [← hy] at hld
   have hsn : ((h.parents.take (k + 1)).filter fun p => !knows (hs P) p) = L ++ (if knows (hs P) y = true then [] else [y]) := by
    rw [hL, List.take_succ_eq_append_getElem hkP, List.filter_append]
    have : h.parents[k] = y := by rw [hy, List.getD_eq_getElem?_getD, List.getElem?_eq_getElem hkP]; rfl
    rw [this]
    congr 1
    cases hkn : knows (hs P) y <;> simp [hkn]
   have hh := run_holdI wr y hy32
   have hkb := heldI_blk wr y
   have hb3 := heldI_below wr y
   obtain ⟨w3, hw3⟩ : ∃ z, z = heldI wr y := ⟨_, rfl⟩
   rw [← hw3] at hh hkb hb3
   have hl3 := box_load hkb hy32 0
   have htb3 := (HTB.out.turn ht (by have := HMS.out; omega)).below hb3 (by have := ht.size; have := HMS.out; have := HS.out; omega)
   have hask := htb3.ask hy32
   have hkn : (toldF (hs P) y).isSome = knows (hs P) y := by
    cases hq : knows (hs P) y with
    | false => rw [told_none.2 hq]; rfl
    | true =>
     cases ht : toldF (hs P) y with
     | none => rw [told_none.1 ht] at hq; cases hq
     | some z => rfl
   rw [hkn] at hask
   have ho3 := ho.below hb3
   obtain ⟨tz, htz⟩ : ∃ z, z = (toldF (hs P) y).getD 0 := ⟨_, rfl⟩
   obtain ⟨tk, htk⟩ : ∃ b, b = knows (hs P) y := ⟨_, rfl⟩
   rw [← htz, ← htk] at hask
   rw [← htk] at hsn
   unfold idv at hask hh
   have HSN := Lib.hid hsn
   have HH := Lib.hid hh
   have HB3 := Lib.hid hb3
   have HY := Lib.hid hy32
   have HO3 := Lib.hid ho3
   have hSr : S ≤ wr.heap.size := by have := ht.size; have := HS.out; omega
   have HSR := Lib.hid hSr
   clear ho ht hbr hLl hL hll hu hbb hbl2 hy hy32 hsn hh hkb hb3 hw3 htb3 hkn ho3 htz htk hkP hSr
   cases tk with
   | true =>
    have hsn := HSN.out
    rw [if_pos rfl, List.append_nil] at hsn
    have HSN := Lib.hid hsn
    clear hsn
    go_wp2_with (first
     | ((with_reducible refine step_load (t := 24) (x := .tmp 18) (p := ?lpe1) (v := ?lve1) ?lge1 ?loe1 ?lxe1 ?lre1 ?lhe1); (case lge1 => rfl); (case loe1 => rfl); (case lxe1 => rfl); (case lre1 => exact hld))
     | ((with_reducible refine step_store_run (t := 24) (x := .tmp 8) (y := .tmp 19) (p := ?spe1) (v := ?sve1) (w' := ?swe1) ?sge1 ?soe1 ?sxe1 ?sye1 ?sre1 ?she1); (case sge1 => rfl); (case soe1 => rfl); (case sxe1 => rfl); (case sye1 => rfl); (case sre1 => exact HH.out))
     | ((with_reducible refine step_load (t := 24) (x := .tmp 8) (p := ?lpe2) (v := ?lve2) ?lge2 ?loe2 ?lxe2 ?lre2 ?lhe2); (case lge2 => rfl); (case loe2 => rfl); (case lxe2 => rfl); (case lre2 => exact hl3))
     | ((with_reducible refine step_lookup (t := 48) (x := .tmp 21) (i := .tmp 22) (ok := true) (m := ?kme1) (y := ?kye1) (v := ?kve1) ?kge1 ?koe1 ?kxe1 ?kie1 ?kre1 ?khe1); (case kge1 => rfl); (case koe1 => rfl); (case kxe1 => rfl); (case kie1 => rfl); (case kre1 => exact hask)))
    go_roundw
    case rel => exact ⟨k + 1, hlt, by push_cast; rfl, by rw [HSN.out]; exact HO3.out, HT.out.trans (Turn.fresh HB3.out fun b hb => (show S ≤ b by have := HSR.out; omega))⟩
    case measure => simp [intOf]; omega
   | false =>
    have hsn := HSN.out
    rw [if_neg (by simp)] at hsn
    have HSN := Lib.hid hsn
    obtain ⟨v4, w4, hrun, ho4, ht4⟩ := run_append_one HO3.out HY.out (by have := HLL.out; omega) (fun b hb => (show S ≤ b by have := HSR.out; have := HB3.out.size; omega)) 22
    have HO4 := Lib.hid ho4
    have HT4 := Lib.hid ht4
    clear hsn ho4 ht4
    go_wp2_with (first
     | ((with_reducible refine step_load (t := 24) (x := .tmp 18) (p := ?lpf1) (v := ?lvf1) ?lgf1 ?lof1 ?lxf1 ?lrf1 ?lhf1); (case lgf1 => rfl); (case lof1 => rfl); (case lxf1 => rfl); (case lrf1 => exact hld))
     | ((with_reducible refine step_store_run (t := 24) (x := .tmp 8) (y := .tmp 19) (p := ?spf1) (v := ?svf1) (w' := ?swf1) ?sgf1 ?sof1 ?sxf1 ?syf1 ?srf1 ?shf1); (case sgf1 => rfl); (case sof1 => rfl); (case sxf1 => rfl); (case syf1 => rfl); (case srf1 => exact HH.out))
     | ((with_reducible refine step_load (t := 24) (x := .tmp 8) (p := ?lpf2) (v := ?lvf2) ?lgf2 ?lof2 ?lxf2 ?lrf2 ?lhf2); (case lgf2 => rfl); (case lof2 => rfl); (case lxf2 => rfl); (case lrf2 => exact hl3))
     | ((with_reducible refine step_lookup (t := 48) (x := .tmp 21) (i := .tmp 22) (ok := true) (m := ?kmf1) (y := ?kyf1) (v := ?kvf1) ?kgf1 ?kof1 ?kxf1 ?kif1 ?krf1 ?khf1); (case kgf1 => rfl); (case kof1 => rfl); (case kxf1 => rfl); (case kif1 => rfl); (case krf1 => exact hask))
     | ((with_reducible refine step_load (t := 24) (x := .tmp 8) (p := ?lpf3) (v := ?lvf3) ?lgf3 ?lof3 ?lxf3 ?lrf3 ?lhf3); (case lgf3 => rfl); (case lof3 => rfl); (case lxf3 => rfl); (case lrf3 => exact hl3))
     | ((with_reducible refine step_build1 (x := .tmp 29) (y := ?byf1) ?bgf1 ?bof1 ?bxf1 ?blf1 ?bhf1); (case bgf1 => rfl); (case bof1 => rfl); (case bxf1 => rfl); (case blf1 => exact HY.out))
     | ((with_reducible refine step_append (s := .tmp 28) (x := .tmp 30) (t := 22) (vs := ?asf1) (vx := ?axf1) (v' := ?avf1) (w' := ?awf1) ?agf1 ?aof1 ?apf1 ?aqf1 ?arf1 ?ahf1); (case agf1 => rfl); (case aof1 => rfl); (case apf1 => rfl); (case aqf1 => rfl); (case arf1 => exact hrun)))
    go_roundw
    case rel =>
     refine ⟨k + 1, hlt, by push_cast; rfl, by rw [HSN.out]; exact HO4.out, (HT.out.trans (Turn.fresh HB3.out fun b hb => (show S ≤ b by have := HSR.out; omega))).trans (HT4.out.mono fun b hb => ?_)⟩
     show S ≤ b
     rcases hb with hb | hb
     ·
      exact HO3.out.2.2 b hb
     ·
      have := HSR.out; have := HB3.out.size; omega
    case measure => simp [intOf]; omega
  ·
   obtain rfl : k = n := by omega
   have HE : Hid (L = unknownR h (hs P)) := Lib.hid (by
    rw [hL, List.take_of_length_le (by rw [← HNN.out]; exact Nat.le_refl _)]; rfl)
   clear hlt ho ht hbr hLl hL hll
   go_wp2_with fail
   go_ret
   exact ⟨_, rfl, by rw [← HE.out]; exact (HO.out.rdv (by have := HLL.out; omega)).1, HBR.out⟩
end Go.Proofs.YtpeneeddfgmjpaaGreatDoor.rul

namespace Go.Proofs.YtpeneeddfgmjpaaGreatDoor.rul
open Go.RowKit Go.Proofs.YtpeneeddfgmjpaaGreatDoor.mem Go.Proofs.YtpeneeddfgmjpaaGreatDoor.sha Go.Proofs.YtpeneeddfgmjpaaGreatDoor.ids Go.Proofs.YtpeneeddfgmjpaaGreatDoor.rows Go.Proofs.YtpeneeddfgmjpaaGreatDoor.hdr Go.Proofs.YtpeneeddfgmjpaaGreatDoor.hds Go.Proofs.YtpeneeddfgmjpaaGreatDoor.mpk
open Go.Proofs.YtpeneeddfgmjpaaGreatDoor.opn (zid)

set_option maxHeartbeats 16000000 in
set_option maxRecDepth 100000 in
theorem verdict_any (h : Hd) (u v : Value) (P : HP) (w : World) (hT : Tabs w) (hr : h.commit.length = 32) (hu : RdV w u h.parents) (hm : h.parents.length ≤ 1000) (hto : h.topic.length ≤ 140737488351232) (hv : HsV w v P) (hf : Few P) (hn : P.length ≤ 1000) :
  Calls Tryz.prog 8 #[hdv h u, v] w fun e w' => e = .returned (.int .i64 (verdictL h (hs P))) ∧ Below w.heap.size w w' := by
 obtain ⟨ad, cap, rfl⟩ := hu.form
 obtain ⟨va, vc, rfl⟩ := hv.form
 obtain ⟨X, hX⟩ : ∃ S, S = w.heap.size := ⟨_, rfl⟩
 obtain ⟨w1, hw1⟩ : ∃ z, z = w.alloc (.cells (hdc h (.slice ad h.parents.length cap)).toArray 26) := ⟨_, rfl⟩
 have hb1 : Blk w1 X 26 (hdc h (.slice ad h.parents.length cap)).toArray := by rw [hw1, hX]; exact Blk.new w _ _
 have hbl : Below w.heap.size w w1 := by rw [hw1]; exact (Below.refl _ _).alloc (Nat.le_refl _) _
 have hl1 := run_load_hd hb1 hr
 have hck := lcheck_any h _ w1 (hT.next hbl) hr (hu.next hbl) hm hto
 have HHT := Lib.hid (fun w2 (hb : Below w1.heap.size w1 w2) => heights_any _ P w2 (hT.next (hbl.trans (hb.mono hbl.size))) (hv.next (hbl.trans (hb.mono hbl.size))) hf hn)
 obtain ⟨pl, hpl⟩ : ∃ n, n = P.length := ⟨_, rfl⟩
 obtain ⟨n, hnn⟩ : ∃ n, n = h.parents.length := ⟨_, rfl⟩
 rw [← hpl] at HHT ⊢
 rw [← hnn] at hb1 hw1 hm hu hl1 hck ⊢
 obtain ⟨ec, hec⟩ : ∃ e, e = checkH h := ⟨_, rfl⟩
 rw [← hec] at hck
 have HEC := Lib.hid hec
 have HB1 := Lib.hid hb1
 have HBL := Lib.hid hbl
 have HU := Lib.hid hu
 have HW := Lib.hid hw1
 have HXX := Lib.hid hX
 have HR := Lib.hid hr
 have HNN := Lib.hid hnn
 obtain ⟨c, hc⟩ : ∃ c, c = (hdc h (.slice ad n cap)).toArray := ⟨_, rfl⟩
 have HC := Lib.hid hc
 unfold hdv at hl1 hck ⊢
 rw [← hc] at HB1 HW hl1 hck ⊢
 have HCK := Lib.hid hck
 have HL1 := Lib.hid hl1
 clear hb1 hbl hw1 hX hv hu hr hnn hc hT hpl hl1 hck hec hto
 go_enter Tryz.func8, Tryz.ntmps8
 go_upto_region 1 with fail
 refine wp_at HW.out.symm ?_
 rw [← HXX.out]
 clear HW
 by_cases he : ec = 0
 case neg =>
  have hne : (ec != 0) = true := bne_iff_ne.2 he
  have HE : Hid (verdictL h (hs P) = ec) := Lib.hid (by unfold verdictL verdictR; rw [← HEC.out, if_pos he])
  have hl1 := HL1.out
  clear he
  go_wp2_with (first
   | ((with_reducible refine step_load (t := 26) (x := .tmp 2) (p := ?lpn1) (v := ?lvn1) ?lgn1 ?lon1 ?lxn1 ?lrn1 ?lhn1); (case lgn1 => rfl); (case lon1 => rfl); (case lxn1 => rfl); (case lrn1 => exact hl1))
   | (go_at_call 20; (with_reducible refine HCK.out.mono ?_); rintro e w2 ⟨rfl, hb2⟩))
  go_ret
  exact ⟨by rw [HE.out]; rfl, HBL.out.trans (hb2.mono HBL.out.size)⟩
 subst he
 have hl1 := HL1.out
 go_upto_region 5 with (first
  | ((with_reducible refine step_load (t := 26) (x := .tmp 2) (p := ?lpc1) (v := ?lvc1) ?lgc1 ?loc1 ?lxc1 ?lrc1 ?lhc1); (case lgc1 => rfl); (case loc1 => rfl); (case lxc1 => rfl); (case lrc1 => exact hl1))
  | (go_at_call 20; (with_reducible refine HCK.out.mono ?_); rintro e w2 ⟨rfl, hb2⟩; have HB2 := Lib.hid hb2; clear hb2)
  | (go_at_call 21; (with_reducible refine (HHT.out _ HB2.out).mono ?_); rintro e w3 ⟨M, rfl, hM, htb, hb3⟩))
 clear hl1 HL1 HCK HHT
 have hb13 := HB2.out.trans (hb3.mono HB2.out.size)
 have hx3 := HB1.out.below hb13 HB1.out.lt
 have c0 : w3.cell? ⟨X, 0, none⟩ = some (.slice ad n cap) := (HdBlk.of (HC.out ▸ hx3) HR.out).parents
 obtain ⟨S, hS⟩ : ∃ S, S = w3.heap.size := ⟨_, rfl⟩
 have HS := Lib.hid hS
 have HX3 := Lib.hid hx3
 have HXS : Hid (X < S) := Lib.hid (by rw [hS]; exact hx3.lt)
 have HTB := Lib.hid htb
 have HMS : Hid (M < S) := Lib.hid (by rw [hS]; exact htb.lt)
 have HBW := Lib.hid (HBL.out.trans (hb13.mono HBL.out.size))
 have HT0 : Hid (Turn (S ≤ ·) w3 w3) := Lib.hid (Turn.refl _ _)
 clear hb13 hx3 hM htb hb3 hS HB2 HB1
 go_wp2_with fail
 clear c0
 go_loopw [7, 22] (fun o i wr => ∃ (k : Nat) (l : List Int), k ≤ n ∧ i = .int .i64 (k : Int) ∧ Hid ((h.parents.take k).map (toldF (hs P)) = l.map some) ∧ OwnC wr (S ≤ ·) 3 o (nums l) ∧ Turn (S ≤ ·) w3 wr) (fun _ i _ => n - (intOf i).toNat)
 case atStart => exact ⟨0, [], Nat.zero_le _, rfl, Lib.hid (by simp), OwnC.nil _ _ _, HT0.out⟩
 case round =>
  clear HT0
  obtain ⟨k, l, hk, rfl, HTL, ho, ht⟩ := hrel
  have k0 : (0 : Int) ≤ (k : Int) := Int.natCast_nonneg _
  have hbr : Below w3.heap.size w3 wr := ht.below fun b hb => (show w3.heap.size ≤ b by rw [← HS.out]; exact hb)
  have HT := Lib.hid ht
  have HBR := Lib.hid (HBW.out.trans (hbr.mono HBW.out.size))
  have HLN : Hid ((nums l).length = k) := Lib.hid (by
   have := congrArg List.length HTL.out
   rw [List.length_map, List.length_map, List.length_take] at this
   have hnn := HNN.out
   rw [nums_len]; omega)
  obtain ⟨oa, oc, hvf⟩ := ho.form
  rw [HLN.out] at hvf
  subst hvf
  have HO := Lib.hid ho
  by_cases hlt : k < n
  ·
   have kI : (k : Int) < (n : Int) := by omega
   have hkP : k < h.parents.length := by rw [← HNN.out]; exact hlt
   have hu := HU.out.next HBR.out
   obtain ⟨b, off, rfl, hbb, hbl2, hld⟩ := hu.load hkP
   have hld := hld 0
   obtain ⟨y, hy⟩ : ∃ y, y = h.parents.getD k [] := ⟨_, rfl⟩
   have hy32 : y.length = 32 := by rw [hy]; exact hu.ok.get hkP
   rw [← hy] at hld
   have hym : y ∈ h.parents := by rw [hy, List.getD_eq_getElem?_getD, List.getElem?_eq_getElem hkP]; exact List.getElem_mem hkP
   have hsn : (h.parents.take (k + 1)).map (toldF (hs P)) = l.map some ++ [toldF (hs P) y] := by
    rw [List.take_succ_eq_append_getElem hkP, List.map_append, HTL.out]
    have : h.parents[k] = y := by rw [hy, List.getD_eq_getElem?_getD, List.getElem?_eq_getElem hkP]; rfl
    rw [this]; rfl
   have hh := run_holdI wr y hy32
   have hkb := heldI_blk wr y
   have hb3 := heldI_below wr y
   obtain ⟨w4, hw4⟩ : ∃ z, z = heldI wr y := ⟨_, rfl⟩
   rw [← hw4] at hh hkb hb3
   have hl3 := box_load hkb hy32 0
   have htb3 := (HTB.out.turn ht (by have := HMS.out; omega)).below hb3 (by have := ht.size; have := HMS.out; have := HS.out; omega)
   have hask := htb3.ask hy32
   have ho3 := ho.below hb3
   unfold idv at hask hh
   obtain ⟨tq, htq⟩ : ∃ q, q = toldF (hs P) y := ⟨_, rfl⟩
   rw [← htq] at hask hsn
   have HTQ := Lib.hid htq
   have HYM := Lib.hid hym
   have HSN := Lib.hid hsn
   have HH := Lib.hid hh
   have HB3 := Lib.hid hb3
   have HO3 := Lib.hid ho3
   have hSr : S ≤ wr.heap.size := by have := ht.size; have := HS.out; omega
   have HSR := Lib.hid hSr
   clear ho ht hbr hu hbb hbl2 hy hy32 hym hsn hh hkb hb3 hw4 htb3 ho3 htq hkP hSr
   cases tq with
   | none =>
    have hask : (Instr.lookup 48 (.map (some M)) (.agg (bv y).toArray) true).run Tryz.prog w4 = .ok (.tuple #[.int .i64 0, .bool false]) w4 := hask
    have HE : Hid (verdictL h (hs P) = 11) := Lib.hid (verdictL_no HEC.out.symm HYM.out HTQ.out.symm)
    go_wp2_with (first
     | ((with_reducible refine step_load (t := 24) (x := .tmp 24) (p := ?lpg1) (v := ?lvg1) ?lgg1 ?log1 ?lxg1 ?lrg1 ?lhg1); (case lgg1 => rfl); (case log1 => rfl); (case lxg1 => rfl); (case lrg1 => exact hld))
     | ((with_reducible refine step_store_run (t := 24) (x := .tmp 9) (y := .tmp 25) (p := ?spg1) (v := ?svg1) (w' := ?swg1) ?sgg1 ?sog1 ?sxg1 ?syg1 ?srg1 ?shg1); (case sgg1 => rfl); (case sog1 => rfl); (case sxg1 => rfl); (case syg1 => rfl); (case srg1 => exact HH.out))
     | ((with_reducible refine step_load (t := 24) (x := .tmp 9) (p := ?lpg2) (v := ?lvg2) ?lgg2 ?log2 ?lxg2 ?lrg2 ?lhg2); (case lgg2 => rfl); (case log2 => rfl); (case lxg2 => rfl); (case lrg2 => exact hl3))
     | ((with_reducible refine step_lookup (t := 48) (x := .tmp 27) (i := .tmp 28) (ok := true) (m := ?kmg1) (y := ?kyg1) (v := ?kvg1) ?kgg1 ?kog1 ?kxg1 ?kig1 ?krg1 ?khg1); (case kgg1 => rfl); (case kog1 => rfl); (case kxg1 => rfl); (case kig1 => rfl); (case krg1 => exact hask)))
    refine bodyPost_ret (results_tmp rfl _ _ _) rfl ?_
    exact ⟨by rw [HE.out]; rfl, HBR.out.trans (HB3.out.mono HBR.out.size)⟩
   | some z =>
    have hask : (Instr.lookup 48 (.map (some M)) (.agg (bv y).toArray) true).run Tryz.prog w4 = .ok (.tuple #[.int .i64 z, .bool true]) w4 := hask
    obtain ⟨v5, w5, hrun, ho5, ht5⟩ := push_num HO3.out z (by rw [HLN.out]; omega)
    have HO5 := Lib.hid ho5
    have HT5 := Lib.hid ht5
    clear ho5 ht5
    go_wp2_with (first
     | ((with_reducible refine step_load (t := 24) (x := .tmp 24) (p := ?lph1) (v := ?lvh1) ?lgh1 ?loh1 ?lxh1 ?lrh1 ?lhh1); (case lgh1 => rfl); (case loh1 => rfl); (case lxh1 => rfl); (case lrh1 => exact hld))
     | ((with_reducible refine step_store_run (t := 24) (x := .tmp 9) (y := .tmp 25) (p := ?sph1) (v := ?svh1) (w' := ?swh1) ?sgh1 ?soh1 ?sxh1 ?syh1 ?srh1 ?shh1); (case sgh1 => rfl); (case soh1 => rfl); (case sxh1 => rfl); (case syh1 => rfl); (case srh1 => exact HH.out))
     | ((with_reducible refine step_load (t := 24) (x := .tmp 9) (p := ?lph2) (v := ?lvh2) ?lgh2 ?loh2 ?lxh2 ?lrh2 ?lhh2); (case lgh2 => rfl); (case loh2 => rfl); (case lxh2 => rfl); (case lrh2 => exact hl3))
     | ((with_reducible refine step_lookup (t := 48) (x := .tmp 27) (i := .tmp 28) (ok := true) (m := ?kmh1) (y := ?kyh1) (v := ?kvh1) ?kgh1 ?koh1 ?kxh1 ?kih1 ?krh1 ?khh1); (case kgh1 => rfl); (case koh1 => rfl); (case kxh1 => rfl); (case kih1 => rfl); (case krh1 => exact hask))
     | ((with_reducible refine step_append (s := .tmp 34) (x := .tmp 36) (t := 50) (vs := ?ash1) (vx := ?axh1) (v' := ?avh1) (w' := ?awh1) ?agh1 ?aoh1 ?aph1 ?aqh1 ?arh1 ?ahh1); (case agh1 => rfl); (case aoh1 => rfl); (case aph1 => rfl); (case aqh1 => rfl); (case arh1 => exact hrun)))
    go_roundw
    case rel =>
     refine ⟨k + 1, l ++ [z], hlt, by push_cast; rfl, Lib.hid (by rw [HSN.out, List.map_append]; rfl), ?_, (HT.out.trans (Turn.fresh HB3.out fun b hb => (show S ≤ b by have := HSR.out; omega))).trans (HT5.out.mono fun b hb => ?_)⟩
     ·
      rw [nums_snoc]
      refine HO5.out.mono fun b hb => ?_
      rcases hb with hb | hb
      ·
       exact HO3.out.2 b hb
      ·
       show S ≤ b; have := HSR.out; have := HB3.out.size; omega
     ·
      show S ≤ b
      rcases hb with hb | hb
      ·
       exact HO3.out.2 b hb
      ·
       have := HSR.out; have := HB3.out.size; omega
    case measure => simp [intOf]; omega
  ·
   obtain rfl : k = n := by omega
   have HTL2 : Hid (h.parents.map (toldF (hs P)) = l.map some) := Lib.hid (by
    have := HTL.out
    rw [List.take_of_length_le (by rw [← HNN.out]; exact Nat.le_refl _)] at this
    exact this)
   have hrd := (ho.rdc (by rw [HLN.out]; omega)).1
   have HAB := Lib.hid (fun m : Nat => above_any l _ (wr.drewN m) (hrd.next (below_drewN (Below.refl _ wr) m)) (by have := HLN.out; rw [nums_len] at this; omega))
   have HV := Lib.hid (verdictL_at HEC.out.symm HTL2.out)
   have hx := HX3.out.turn ht (by have := HXS.out; omega)
   have c1 : wr.cell? ⟨X, 1, none⟩ = some (.int .i64 h.height) := (HdBlk.of (HC.out ▸ hx) HR.out).height
   obtain ⟨hg, hhg⟩ : ∃ z, z = h.height := ⟨_, rfl⟩
   obtain ⟨ag, hag⟩ : ∃ z, z = aboveL l := ⟨_, rfl⟩
   rw [← hhg] at c1 HV
   rw [← hag] at HAB HV
   clear hlt ho ht hbr hrd hx hhg hag
   by_cases hq : hg = ag
   ·
    have HE : Hid (verdictL h (hs P) = 0) := Lib.hid (by rw [HV.out, if_pos hq])
    have hne : (hg != ag) = false := by rw [hq]; simp
    clear hq
    go_upto_region 14 with fail
    go_quiet ((go_at_call 22; exact quiet_left ((HAB.out _).mono fun _ _ ⟨he, hw⟩ => ⟨he, hw⟩)))
    go_wp2_with fail
    go_ret
    exact ⟨by rw [HE.out]; rfl, below_drewN HBR.out _⟩
   ·
    have HE : Hid (verdictL h (hs P) = 12) := Lib.hid (by rw [HV.out, if_neg hq])
    have hne : (hg != ag) = true := bne_iff_ne.2 hq
    clear hq
    go_upto_region 14 with fail
    go_quiet ((go_at_call 22; exact quiet_left ((HAB.out _).mono fun _ _ ⟨he, hw⟩ => ⟨he, hw⟩)))
    go_wp2_with fail
    go_ret
    exact ⟨by rw [HE.out]; rfl, below_drewN HBR.out _⟩
end Go.Proofs.YtpeneeddfgmjpaaGreatDoor.rul
