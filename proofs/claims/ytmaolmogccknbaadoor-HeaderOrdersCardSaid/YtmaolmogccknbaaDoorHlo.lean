/-
  The landed header: Of.
-/
import Derived.Test.YtmaolmogccknbaaDoorHlr
import Derived.Test.YtmaolmogccknbaaDoorHld
namespace Go.Proofs.YtmaolmogccknbaaDoor.hdr
open Go.RowKit Go.Proofs.YtmaolmogccknbaaDoor.mem Go.Proofs.YtmaolmogccknbaaDoor.sha Go.Proofs.YtmaolmogccknbaaDoor.ids
open Go.Proofs.YtmaolmogccknbaaDoor.opn (b1 b2 b4 num txt idl byte rd rdN rdT rdI rdS rdS' rdL St Reads Stays endE zid mkId RdL lend_s)

theorem ofH_eq' (s : List UInt8) (hl : ¬ 256 < s.length) : ofH s = if endE (rdH' (s, 0)).2 ≠ 0 then (zhd, endE (rdH' (s, 0)).2) else if checkH (rdH' (s, 0)).1 ≠ 0 then (zhd, checkH (rdH' (s, 0)).1) else ((rdH' (s, 0)).1, 0) := by
  rw [ofH_eq s hl, rdH'_snd]
  by_cases h0 : endE (rdH (s, 0)).2 = 0
  · have h1 : (rdH (s, 0)).2.2 = 0 := by
      unfold endE at h0
      by_cases a : (rdH (s, 0)).2.2 = 0
      · exact a
      · rw [if_pos a] at h0; exact h0
    rw [rdH'_ok _ h1]
  · rw [if_pos h0, if_pos h0]
theorem rdH'_com (st : St) : (rdH' st).1.commit.length = 32 := opn.rdI_len _
theorem rdH'_par (st : St) : (rdH' st).1.parents.length ≤ 255 := opn.rdS'_le st
theorem rdH'_top (st : St) : (rdH' st).1.topic.length ≤ 255 := rdT_len _
set_option maxHeartbeats 8000000 in
set_option maxRecDepth 100000 in
theorem lof_any (s : ByteArray) (w : World) (hT : Tabs w) (hs : s.size ≤ 281474976710656) :
    Calls Tryd.prog 31 #[.string s] w fun e w' => ∃ v, e = .returned (.tuple #[hdv (ofH s.data.toList).1 v, .int .i64 (ofH s.data.toList).2]) ∧ RdV w' v (ofH s.data.toList).1.parents ∧ Below w.heap.size w w' := by
  obtain ⟨R, hR⟩ : ∃ S, S = w.heap.size := ⟨_, rfl⟩
  obtain ⟨w1, hw1⟩ : ∃ u, u = w.alloc (.cells (hdc zhd nv).toArray 46) := ⟨_, rfl⟩
  have hX : Blk w1 R 46 (hdc zhd nv).toArray := by rw [hw1, hR]; exact Blk.new w _ _
  have hB : Below w.heap.size w w1 := by rw [hw1]; exact (Below.refl _ _).alloc (Nat.le_refl _) _
  have hsz : w1.heap.size = R + 1 := by rw [hw1, hR]; simp
  obtain ⟨l, hl⟩ : ∃ l, l = s.data.toList := ⟨_, rfl⟩
  have hlen : s.size = l.length := by rw [hl]; exact Lib.size_eq s
  rw [← hl]
  have hopen : Calls Tryd.prog 53 #[.string s] w1 fun e w' => e = .returned (.pointer (some ⟨R + 1, 0, none⟩)) ∧ RdL w' (R + 1) (l, 0) ∧ Turn (R + 1 ≤ ·) w1 w' := by
    refine (oct.open_any s w1).mono ?_
    rintro e w2 ⟨rfl, h2, hb2⟩
    rw [hsz] at h2 hb2 ⊢
    exact ⟨rfl, ⟨s, 0, h2, ⟨rfl, fun _ => by rw [hl]; exact (oct.tx_eta s).symm⟩, hs⟩, Turn.fresh (by rw [hsz]; exact hb2) (fun k hk => by rw [hsz] at hk; exact hk)⟩
  obtain ⟨o1, ho1⟩ : ∃ o, o = (rdH' (l, 0)).1 := ⟨_, rfl⟩
  obtain ⟨s1, hs1⟩ : ∃ o, o = (rdH' (l, 0)).2 := ⟨_, rfl⟩
  have href : o1.commit.length = 32 := by rw [ho1]; exact rdH'_com _
  have hrefs : o1.parents.length ≤ 255 := by rw [ho1]; exact rdH'_par _
  have htop : o1.topic.length ≤ 255 := by rw [ho1]; exact rdH'_top _
  have HREAD : Hid (∀ u : World, RdL u (R + 1) (l, 0) → New (R + 1 ≤ ·) u → Calls Tryd.prog 70 #[.pointer (some ⟨R + 1, 0, none⟩)] u fun e w' => ∃ v, e = .returned (hdv o1 v) ∧ OwnI w' (u.heap.size ≤ ·) v o1.parents ∧ RdL w' (R + 1) s1 ∧ Turn (R + 1 ≤ ·) u w') := Lib.hid fun u hu hn => by
    rw [ho1, hs1]
    exact hread_any (R + 1 ≤ ·) (R + 1) (l, 0) u hu (Nat.le_refl (R + 1)) hn
  have HOFL := Lib.hid (ofH_eq' l)
  rw [← ho1, ← hs1] at HOFL
  obtain ⟨e1, he1⟩ : ∃ e, e = endE s1 := ⟨_, rfl⟩
  have HEND := Lib.hid (fun (u : World) (hu : RdL u (R + 1) s1) => lend_s (R + 1) s1 u hu)
  rw [← he1] at HEND HOFL
  obtain ⟨c, hc⟩ : ∃ c, c = checkH o1 := ⟨_, rfl⟩
  rw [← hc] at HOFL
  have HCK := Lib.hid (fun (u : World) (v : Value) (ht : Tabs u) (hv : RdV u v o1.parents) => lcheck_any o1 v u ht href hv (Nat.le_trans hrefs (by decide)) (Nat.le_trans htop (by decide)))
  rw [← hc] at HCK
  have HX := Lib.hid hX
  have HB := Lib.hid hB
  have HW := Lib.hid hw1
  have HR := Lib.hid hR
  have HSZ := Lib.hid hsz
  have HOPEN := Lib.hid hopen
  have HT := Lib.hid hT
  have HREF := Lib.hid href
  have HRL := Lib.hid hrefs
  have HS1 := Lib.hid (run_store_hd hX (hdc_size _ _ zcom) zhd nv zcom nv_one)
  clear hX hB hw1 hR hsz hopen hT hs hl ho1 hs1 href hrefs he1 hc htop
  by_cases hlong : 256 < l.length
  · have hl1 : (256 : Int) < (s.size : Int) := by omega
    have HE : Hid (ofH l = (zhd, 3)) := Lib.hid (by unfold ofH; rw [if_pos hlong])
    clear hlong hlen
    go_enter Tryd.func31, Tryd.ntmps31
    go_upto_region 1 with fail
    refine wp_at HW.out.symm ?_
    rw [← HR.out]
    clear HW
    go_wp2_with (first
      | ((with_reducible refine step_build (t := 46) (parts := #[]) (ps := #[]) (v := ?bvL) ?bgL ?boL ?bxL ?brL ?bhL); (case bgL => rfl); (case boL => rfl); (case bxL => simp); (case brL => exact run_build_z _))
      | ((with_reducible refine step_store_run (t := 46) (x := .tmp 2) (y := .tmp 11) (p := ?speL) (v := ?sveL) (w' := ?sweL) ?sgeL ?soeL ?sxeL ?syeL ?sreL ?sheL); (case sgeL => rfl); (case soeL => rfl); (case sxeL => rfl); (case syeL => rfl); (case sreL => exact HS1.out)))
    refine bodyPost_ret (results_hd rfl _ _ R _ zhd nv rfl (setRow_heap _ _ _ _ _ _ HX.out) zcom) rfl ⟨nv, by rw [HE.out]; rfl, ?_, ?_⟩
    · rw [HE.out]; exact (OwnI.nil _ (fun _ => True)).rdv (by decide) |>.1
    · exact below_row' HB.out (by rw [HR.out]; exact Nat.le_refl _) _
  have hl1 : (s.size : Int) ≤ 256 := by omega
  have HO := Lib.hid (HOFL.out hlong)
  clear hlong hlen HOFL
  by_cases h1 : e1 = 0
  · subst h1
    by_cases h2 : c = 0
    · subst h2
      have HE : Hid (ofH l = (o1, 0)) := Lib.hid (by rw [HO.out]; rfl)
      go_enter Tryd.func31, Tryd.ntmps31
      go_upto_region 1 with fail
      refine wp_at HW.out.symm ?_
      rw [← HR.out]
      clear HW
      go_wp2_with (first
        | (go_at_call 53; (with_reducible refine HOPEN.out.mono ?_); rintro e w2 ⟨rfl, hr2, ht2⟩; have HT2 := Lib.hid ht2; have HRD := Lib.hid (HREAD.out w2 hr2 (fun b hb => by have := HSZ.out; have := ht2.size; omega)); clear hr2 ht2)
        | (go_at_call 70; (with_reducible refine HRD.out.mono ?_); rintro e w5 ⟨v, rfl, how5, hr5, ht5⟩; have hv5 := (how5.rdv (Nat.le_trans HRL.out (by decide))).1; have HH := Lib.hid (run_hold w5 o1 v HREF.out (rdv_one hv5)); obtain ⟨w6, hw6⟩ : ∃ u, u = heldW w5 o1 v := ⟨_, rfl⟩; have hb6 := held_below w5 o1 v; have hk6 := held_blk w5 o1 v; rw [← hw6] at HH hb6 hk6; have ht6 : Turn (R + 1 ≤ ·) w1 w6 := (HT2.out.trans ht5).trans (Turn.fresh hb6 (fun b hb => by have := HSZ.out; have := HT2.out.size; have := ht5.size; omega)); have HE6 := Lib.hid (HEND.out w6 (by obtain ⟨sx, ex, hx, hsx⟩ := hr5; exact ⟨sx, ex, Blk.below hx hb6 (Blk.lt hx), hsx⟩)); have hX6 := HX.out.turn ht6 (by omega); have HX6 := Lib.hid hX6; have HS6 := Lib.hid (run_store_hd hX6 (hdc_size _ _ zcom) zhd nv zcom nv_one); have HL6 := Lib.hid (run_load_hd hk6 HREF.out); have hv6 := hv5.next hb6; have hB6 : Below w.heap.size w w6 := HB.out.trans (ht6.below fun b hb => by have := HR.out; omega); have HC6 := Lib.hid (HCK.out w6 v (HT.out.next hB6) hv6); have HV6 := Lib.hid hv6; have HB6 := Lib.hid hB6; have HK6 := Lib.hid hk6; have HO6 : Hid (v.oneCell' = true) := Lib.hid (rdv_one hv5); have HW6 := Lib.hid ((how5.below hb6).mono (G := (R < ·)) fun b hb => by have hb : w2.heap.size ≤ b := hb; have := HSZ.out; have := HT2.out.size; omega); clear how5 hv5 hr5 ht5 hb6 hk6 ht6 hX6 hv6 hB6 hw6)
        | ((with_reducible refine step_store_run (t := 46) (x := .tmp 5) (y := .tmp 15) (p := ?spa) (v := ?sva) (w' := ?swa) ?sga ?soa ?sxa ?sya ?sra ?sha); (case sga => rfl); (case soa => rfl); (case sxa => rfl); (case sya => rfl); (case sra => exact HH.out))
        | (go_at_call 57; (with_reducible refine HE6.out.mono ?_); rintro e w7 ⟨rfl, rfl⟩)
        | ((with_reducible refine step_load (t := 46) (x := .tmp 5) (p := ?lpb) (v := ?lvb) ?lgb ?lob ?lxb ?lrb ?lhb); (case lgb => rfl); (case lob => rfl); (case lxb => rfl); (case lrb => exact HL6.out))
        | (go_at_call 27; (with_reducible refine HC6.out.mono ?_); rintro e w7 ⟨rfl, hb7⟩; have hX7 := HX6.out.below hb7 HX6.out.lt; have HX7 := Lib.hid hX7; have HS7 := Lib.hid (run_store_hd hX7 (hdc_size _ _ zcom) zhd nv zcom nv_one); have HL7 := Lib.hid (run_load_hd (HK6.out.below hb7 HK6.out.lt) HREF.out); have HS8 := Lib.hid (run_store_hd hX7 (hdc_size _ _ zcom) o1 v HREF.out HO6.out); have HV7 := Lib.hid (HW6.out.below hb7); have HB7 := Lib.hid (HB6.out.trans (hb7.mono HB6.out.size)); clear hb7 hX7)
        | ((with_reducible refine step_load (t := 46) (x := .tmp 5) (p := ?lpd) (v := ?lvd) ?lgd ?lod ?lxd ?lrd ?lhd); (case lgd => rfl); (case lod => rfl); (case lxd => rfl); (case lrd => exact HL7.out))
        | ((with_reducible refine step_store_run (t := 46) (x := .tmp 2) (y := .tmp 28) (p := ?spe) (v := ?sve) (w' := ?swe) ?sge ?soe ?sxe ?sye ?sre ?she); (case sge => rfl); (case soe => rfl); (case sxe => rfl); (case sye => rfl); (case sre => exact HS8.out)))
      refine bodyPost_ret (results_hd rfl _ _ R _ o1 v rfl (setRow_heap _ _ _ _ _ _ HX7.out) HREF.out) rfl ⟨v, by rw [HE.out]; rfl, ?_, ?_⟩
      · rw [HE.out]; exact ((HV7.out.turn (turn_row _ R _) fun k hk e => by have a : R < k := HV7.out.2.2 k hk; omega).rdv (Nat.le_trans HRL.out (by decide))).1
      · exact below_row' HB7.out (by rw [HR.out]; exact Nat.le_refl _) _
    · have hne : (c != 0) = true := bne_iff_ne.2 h2
      have HE : Hid (ofH l = (zhd, c)) := Lib.hid (by rw [HO.out, if_neg (show ¬ ((0 : Int) ≠ 0) from fun e => e rfl), if_pos h2])
      clear h2
      go_enter Tryd.func31, Tryd.ntmps31
      go_upto_region 1 with fail
      refine wp_at HW.out.symm ?_
      rw [← HR.out]
      clear HW
      go_wp2_with (first
        | (go_at_call 53; (with_reducible refine HOPEN.out.mono ?_); rintro e w2 ⟨rfl, hr2, ht2⟩; have HT2 := Lib.hid ht2; have HRD := Lib.hid (HREAD.out w2 hr2 (fun b hb => by have := HSZ.out; have := ht2.size; omega)); clear hr2 ht2)
        | (go_at_call 70; (with_reducible refine HRD.out.mono ?_); rintro e w5 ⟨v, rfl, how5, hr5, ht5⟩; have hv5 := (how5.rdv (Nat.le_trans HRL.out (by decide))).1; have HH := Lib.hid (run_hold w5 o1 v HREF.out (rdv_one hv5)); obtain ⟨w6, hw6⟩ : ∃ u, u = heldW w5 o1 v := ⟨_, rfl⟩; have hb6 := held_below w5 o1 v; have hk6 := held_blk w5 o1 v; rw [← hw6] at HH hb6 hk6; have ht6 : Turn (R + 1 ≤ ·) w1 w6 := (HT2.out.trans ht5).trans (Turn.fresh hb6 (fun b hb => by have := HSZ.out; have := HT2.out.size; have := ht5.size; omega)); have HE6 := Lib.hid (HEND.out w6 (by obtain ⟨sx, ex, hx, hsx⟩ := hr5; exact ⟨sx, ex, Blk.below hx hb6 (Blk.lt hx), hsx⟩)); have hX6 := HX.out.turn ht6 (by omega); have HX6 := Lib.hid hX6; have HS6 := Lib.hid (run_store_hd hX6 (hdc_size _ _ zcom) zhd nv zcom nv_one); have HL6 := Lib.hid (run_load_hd hk6 HREF.out); have hv6 := hv5.next hb6; have hB6 : Below w.heap.size w w6 := HB.out.trans (ht6.below fun b hb => by have := HR.out; omega); have HC6 := Lib.hid (HCK.out w6 v (HT.out.next hB6) hv6); have HV6 := Lib.hid hv6; have HB6 := Lib.hid hB6; have HK6 := Lib.hid hk6; have HO6 : Hid (v.oneCell' = true) := Lib.hid (rdv_one hv5); have HW6 := Lib.hid ((how5.below hb6).mono (G := (R < ·)) fun b hb => by have hb : w2.heap.size ≤ b := hb; have := HSZ.out; have := HT2.out.size; omega); clear how5 hv5 hr5 ht5 hb6 hk6 ht6 hX6 hv6 hB6 hw6)
        | ((with_reducible refine step_store_run (t := 46) (x := .tmp 5) (y := .tmp 15) (p := ?spc) (v := ?svc) (w' := ?swc) ?sgc ?soc ?sxc ?syc ?src ?shc); (case sgc => rfl); (case soc => rfl); (case sxc => rfl); (case syc => rfl); (case src => exact HH.out))
        | (go_at_call 57; (with_reducible refine HE6.out.mono ?_); rintro e w7 ⟨rfl, rfl⟩)
        | ((with_reducible refine step_load (t := 46) (x := .tmp 5) (p := ?lpf) (v := ?lvf) ?lgf ?lof ?lxf ?lrf ?lhf); (case lgf => rfl); (case lof => rfl); (case lxf => rfl); (case lrf => exact HL6.out))
        | (go_at_call 27; (with_reducible refine HC6.out.mono ?_); rintro e w7 ⟨rfl, hb7⟩; have hX7 := HX6.out.below hb7 HX6.out.lt; have HX7 := Lib.hid hX7; have HS7 := Lib.hid (run_store_hd hX7 (hdc_size _ _ zcom) zhd nv zcom nv_one); have HL7 := Lib.hid (run_load_hd (HK6.out.below hb7 HK6.out.lt) HREF.out); have HS8 := Lib.hid (run_store_hd hX7 (hdc_size _ _ zcom) o1 v HREF.out HO6.out); have HV7 := Lib.hid (HW6.out.below hb7); have HB7 := Lib.hid (HB6.out.trans (hb7.mono HB6.out.size)); clear hb7 hX7)
        | ((with_reducible refine step_build (t := 46) (parts := #[]) (ps := #[]) (v := ?bvcc) ?bgcc ?bocc ?bxcc ?brcc ?bhcc); (case bgcc => rfl); (case bocc => rfl); (case bxcc => simp); (case brcc => exact run_build_z _))
        | ((with_reducible refine step_store_run (t := 46) (x := .tmp 2) (y := .tmp 26) (p := ?spg) (v := ?svg) (w' := ?swg) ?sgg ?sog ?sxg ?syg ?srg ?shg); (case sgg => rfl); (case sog => rfl); (case sxg => rfl); (case syg => rfl); (case srg => exact HS7.out)))
      refine bodyPost_ret (results_hd rfl _ _ R _ zhd nv rfl (setRow_heap _ _ _ _ _ _ HX7.out) zcom) rfl ⟨nv, by rw [HE.out]; rfl, ?_, ?_⟩
      · rw [HE.out]; exact (OwnI.nil _ (fun _ => True)).rdv (by decide) |>.1
      · exact below_row' HB7.out (by rw [HR.out]; exact Nat.le_refl _) _
  · have hne : (e1 != 0) = true := bne_iff_ne.2 h1
    have HE : Hid (ofH l = (zhd, e1)) := Lib.hid (by rw [HO.out, if_pos h1])
    clear h1
    go_enter Tryd.func31, Tryd.ntmps31
    go_upto_region 1 with fail
    refine wp_at HW.out.symm ?_
    rw [← HR.out]
    clear HW
    go_wp2_with (first
      | (go_at_call 53; (with_reducible refine HOPEN.out.mono ?_); rintro e w2 ⟨rfl, hr2, ht2⟩; have HT2 := Lib.hid ht2; have HRD := Lib.hid (HREAD.out w2 hr2 (fun b hb => by have := HSZ.out; have := ht2.size; omega)); clear hr2 ht2)
      | (go_at_call 70; (with_reducible refine HRD.out.mono ?_); rintro e w5 ⟨v, rfl, how5, hr5, ht5⟩; have hv5 := (how5.rdv (Nat.le_trans HRL.out (by decide))).1; have HH := Lib.hid (run_hold w5 o1 v HREF.out (rdv_one hv5)); obtain ⟨w6, hw6⟩ : ∃ u, u = heldW w5 o1 v := ⟨_, rfl⟩; have hb6 := held_below w5 o1 v; have hk6 := held_blk w5 o1 v; rw [← hw6] at HH hb6 hk6; have ht6 : Turn (R + 1 ≤ ·) w1 w6 := (HT2.out.trans ht5).trans (Turn.fresh hb6 (fun b hb => by have := HSZ.out; have := HT2.out.size; have := ht5.size; omega)); have HE6 := Lib.hid (HEND.out w6 (by obtain ⟨sx, ex, hx, hsx⟩ := hr5; exact ⟨sx, ex, Blk.below hx hb6 (Blk.lt hx), hsx⟩)); have hX6 := HX.out.turn ht6 (by omega); have HX6 := Lib.hid hX6; have HS6 := Lib.hid (run_store_hd hX6 (hdc_size _ _ zcom) zhd nv zcom nv_one); have HL6 := Lib.hid (run_load_hd hk6 HREF.out); have hv6 := hv5.next hb6; have hB6 : Below w.heap.size w w6 := HB.out.trans (ht6.below fun b hb => by have := HR.out; omega); have HC6 := Lib.hid (HCK.out w6 v (HT.out.next hB6) hv6); have HV6 := Lib.hid hv6; have HB6 := Lib.hid hB6; have HK6 := Lib.hid hk6; have HO6 : Hid (v.oneCell' = true) := Lib.hid (rdv_one hv5); have HW6 := Lib.hid ((how5.below hb6).mono (G := (R < ·)) fun b hb => by have hb : w2.heap.size ≤ b := hb; have := HSZ.out; have := HT2.out.size; omega); clear how5 hv5 hr5 ht5 hb6 hk6 ht6 hX6 hv6 hB6 hw6)
      | ((with_reducible refine step_store_run (t := 46) (x := .tmp 5) (y := .tmp 15) (p := ?sph) (v := ?svh) (w' := ?swh) ?sgh ?soh ?sxh ?syh ?srh ?shh); (case sgh => rfl); (case soh => rfl); (case sxh => rfl); (case syh => rfl); (case srh => exact HH.out))
      | (go_at_call 57; (with_reducible refine HE6.out.mono ?_); rintro e w7 ⟨rfl, rfl⟩)
      | ((with_reducible refine step_build (t := 46) (parts := #[]) (ps := #[]) (v := ?bvce) ?bgce ?boce ?bxce ?brce ?bhce); (case bgce => rfl); (case boce => rfl); (case bxce => simp); (case brce => exact run_build_z _))
      | ((with_reducible refine step_store_run (t := 46) (x := .tmp 2) (y := .tmp 20) (p := ?spi) (v := ?svi) (w' := ?swi) ?sgi ?soi ?sxi ?syi ?sri ?shi); (case sgi => rfl); (case soi => rfl); (case sxi => rfl); (case syi => rfl); (case sri => exact HS6.out)))
    refine bodyPost_ret (results_hd rfl _ _ R _ zhd nv rfl (setRow_heap _ _ _ _ _ _ HX6.out) zcom) rfl ⟨nv, by rw [HE.out]; rfl, ?_, ?_⟩
    · rw [HE.out]; exact (OwnI.nil _ (fun _ => True)).rdv (by decide) |>.1
    · exact below_row' HB6.out (by rw [HR.out]; exact Nat.le_refl _) _
end Go.Proofs.YtmaolmogccknbaaDoor.hdr
