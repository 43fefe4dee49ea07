/-
  FaultOwn.
-/
import Derived.Test.YtlbieneklijpeaaDoorFno
import Derived.Test.YtlbieneklijpeaaDoorIdst
namespace Go.Proofs.YtlbieneklijpeaaDoor.fault
open Go.RowKit Go.Proofs.YtlbieneklijpeaaDoor.mem Go.Proofs.YtlbieneklijpeaaDoor.sha Go.Proofs.YtlbieneklijpeaaDoor.ids Go.Proofs.YtlbieneklijpeaaDoor.rows Go.Extern.Stop Go.Stop Go.Extern

theorem OwnI.above {w : World} {F : Nat → Prop} {v : Value} {L : List Id} (h : OwnI w F v L) : OwnI w (fun k => F k ∧ k < w.heap.size) v L := ⟨h.1, h.2.1, fun k hk => ⟨h.2.2 k hk, h.lt hk⟩⟩
/-- what stands while one list of the caller's is written -/
structure OwSt (C : Nat) (x : Id) (P G : Nat → Prop) (ad1 : Option Addr) (cap1 : Nat) (ve vm : Value) (L : List Id) (t : Tr) (w0 w : World) : Prop where
  below : Below C w0 w
  tab : Tab w
  box : Blk w C 47 (bv x).toArray
  ids : RdV w (.slice ad1 L.length cap1) L
  err : Lie w P ve t
  mine : ∃ M, M.length = L.length ∧ OwnI w G vm M
  lo : ∀ b off, ad1 = some ⟨b, off, none⟩ → b < C
  c0 : 0 < C
  hx : x.length = 32
  gC : ∀ k, G k → C < k
  pG : ∀ k, P k → ¬ G k
theorem OwSt.put {C : Nat} {x : Id} {P G : Nat → Prop} {ad1 : Option Addr} {cap1 : Nat} {ve vm : Value} {L : List Id} {t : Tr} {w0 w : World} (h : OwSt C x P G ad1 cap1 ve vm L t w0 w) {i : Nat} (hi : i < L.length) :
    ∃ b c w', vm = .slice (some ⟨b, 0, none⟩) L.length c ∧ (Instr.storeAt 47 (.pointer (some ⟨b, i * 32, none⟩)) (.agg (bv x).toArray)).run Tryd.prog w = .ok () w' ∧ OwSt C x P G ad1 cap1 ve vm L t w0 w' ∧ w.heap.size ≤ w'.heap.size := by
  obtain ⟨M, hM, hO⟩ := h.mine
  obtain ⟨b, c, w', hv, hb, hr, hO', ht⟩ := hO.store (i := i) (by omega) h.hx
  have hCb := h.gC b hb
  refine ⟨b, c, w', by rw [← hM]; exact hv, hr, ⟨h.below.trans (ht.below fun k hk => by rw [hk]; exact Nat.le_of_lt hCb), (ht.cell (b := 0) (i := 0) (by have := h.c0; omega)).trans h.tab, h.box.turn ht (by omega), h.ids.turn ht (fun b2 off e _ he => by have := h.lo b2 off e; omega), h.err.turn ht (fun k hk _ he => h.pG k hk (he ▸ hb)), ⟨_, by rw [List.length_set]; exact hM, hO'⟩, h.lo, h.c0, h.hx, h.gC, h.pG⟩, ht.size⟩

set_option maxHeartbeats 8000000 in
set_option maxRecDepth 100000 in
theorem own_walk (L : List Id) (x : Id) (v1 : Value) (w : World) (hg : Tab w) (h1 : RdV w v1 L) (hx : x.length = 32) :
    Calls Tryd.prog 5 #[v1, .agg (bv x).toArray] w fun e w' => e = .returned (.bool true) ∧ Below w.heap.size w w' := by
  obtain ⟨wb, hwb⟩ : ∃ u, u = w.alloc (.cells (bv x).toArray 47) := ⟨_, rfl⟩
  obtain ⟨C, hC⟩ : ∃ S, S = w.heap.size := ⟨_, rfl⟩
  have hX : Blk wb C 47 (bv x).toArray := by rw [hwb, hC]; exact Blk.new w _ _
  have hB : Below w.heap.size w wb := by rw [hwb]; exact (Below.refl _ _).alloc (Nat.le_refl _) _
  obtain ⟨ad1, cap1, rfl⟩ := h1.form
  have hlo : L ≠ [] → ∀ b off, ad1 = some ⟨b, off, none⟩ → b < C := fun hne b off e => by
    obtain ⟨b', off', c', e', hlt⟩ := RdV.some_ h1 hne
    rw [e] at e'
    cases e'
    rw [hC]; exact hlt
  have HLO := Lib.hid hlo
  have HC0 := Lib.hid (show 0 < C by rw [hC]; exact hg.lt)
  have HX := Lib.hid hX
  have HB := Lib.hid hB
  have HG := Lib.hid (hg.next hB)
  have H1 := Lib.hid (h1.next hB)
  have HW := Lib.hid hwb
  have HCC := Lib.hid hC
  have hCb : wb.heap.size = C + 1 := by rw [hwb, hC]; simp
  have HCB := Lib.hid hCb
  clear hX hB hwb hC hg h1 hlo hCb
  have hnil : Calls Tryd.prog 17 #[.slice none 0 0] wb fun x w' => x = .returned .nilIface ∧ Below wb.heap.size wb w' :=
    (fmissing_any [] (.slice none 0 0) wb ⟨okIds.nil, Nat.zero_le _, none, 0, rfl, Nat.le_refl _, Nat.zero_le _, fun _ => rfl, (fun a h => by cases h), .inl rfl⟩ (by decide)).mono fun x w' ⟨v, h1, h2, h3⟩ => by cases h2; exact ⟨h1, h3⟩
  by_cases h0 : L.length = 0
  · have hz : ((L.length : Int) == 0) = true := by simp [h0]
    rw [h0]
    clear h0 hz
    go_enter Tryd.func5, Tryd.ntmps5
    go_upto_region 1 with fail
    refine wp_at HW.out.symm ?_
    clear HW
    go_wp2_with (first
      | (go_at_call 17; refine hnil.mono ?_; rintro e w2 ⟨rfl, hb2⟩)
      | (go_at_call 15; refine (awake_any _ (HG.out.next hb2)).mono ?_; rintro e w3 ⟨rfl, hb3⟩))
    go_ret
    exact ⟨rfl, HB.out.trans ((hb2.trans (hb3.mono hb2.size)).mono HB.out.size)⟩
  by_cases hl : 50 < L.length
  · have hI : (50 : Int) < (L.length : Int) := by omega
    have hz : ((L.length : Int) == 0) = false := beq_eq_false_iff_ne.2 (by omega)
    clear h0
    go_enter Tryd.func5, Tryd.ntmps5
    go_upto_region 1 with fail
    refine wp_at HW.out.symm ?_
    clear HW hl
    go_wp2_with (first
      | (go_at_call 17; refine hnil.mono ?_; rintro e w2 ⟨rfl, hb2⟩)
      | (go_at_call 15; refine (awake_any _ (HG.out.next hb2)).mono ?_; rintro e w3 ⟨rfl, hb3⟩))
    go_ret
    exact ⟨rfl, HB.out.trans ((hb2.trans (hb3.mono hb2.size)).mono HB.out.size)⟩
  have hz : ((L.length : Int) == 0) = false := beq_eq_false_iff_ne.2 (by omega)
  have hI : (L.length : Int) ≤ 50 := by omega
  have hne : L ≠ [] := fun e => h0 (by rw [e]; rfl)
  have hlen : L.length ≤ 50 := by omega
  have HNE := Lib.hid hne
  have HLEN := Lib.hid hlen
  have hwn : New (wb.heap.size ≤ ·) wb := fun k hk => hk
  have hBa := (Below.refl wb.heap.size wb).alloc (Nat.le_refl _) (.cells #[] 47)
  have hO0 := OwnI.laid0 wb (wb.heap.size ≤ ·) hwn
  obtain ⟨v3, w3, hrun3, hO3, ht3⟩ := run_append_rd hO0 (H1.out.next hBa) (by rw [List.length_nil]; omega) (hwn.alloc _) 37
  have hb3 : Below wb.heap.size wb w3 := hBa.trans ((ht3.mono fun k hk => hk.elim (hO0.2.2 k) (fun h => hwn.alloc _ k h)).below fun k hk => hk)
  rw [List.nil_append] at hO3
  obtain ⟨ad3, cap3, rfl, -⟩ := hO3.form
  have HO3 := Lib.hid hO3
  have HB3 := Lib.hid hb3
  clear hO3 hb3 ht3 hO0 hBa hwn h0 hl hne hlen hnil
  go_enter Tryd.func5, Tryd.ntmps5
  go_upto_region 1 with fail
  refine wp_at HW.out.symm ?_
  rw [← HCC.out]
  clear HW
  go_upto_region 4 with (((with_reducible refine step_append (s := .tmp 26) (x := .tmp 27) (t := 37) (vs := ?asow) (vx := ?axow) (v' := ?avow) (w' := ?awow) ?agow ?aoow ?apow ?aqow ?arow ?ahow); (case agow => rfl); (case aoow => rfl); (case apow => rfl); (case aqow => rfl); (case arow => exact hrun3)))
  go_upto_region 5 with (first
    | (go_at_call 17; refine (fmissing_any L _ w3 (HO3.out.rdv (by have := HLEN.out; omega)).1 (by have := HLEN.out; omega)).mono ?_; rintro e w4 ⟨v4, rfl, hl4, hb4⟩)
    | (go_at_call 16; refine (fwrap_any ⟨#[97]⟩ _ _ v4 w4 hl4 (by decide)).mono ?_; rintro e w5 ⟨v5, rfl, hl5, hb5⟩))
  have hbC : Below C w w5 := by
    have hC := HCC.out
    rw [hC]
    exact (((HB.out.trans (HB3.out.mono HB.out.size)).trans (hb4.mono (by have := HB.out.size; have := HB3.out.size; omega))).trans (hb5.mono (by have := HB.out.size; have := HB3.out.size; have := hb4.size; omega)))
  have hwb5 : Below wb.heap.size wb w5 := (HB3.out.trans (hb4.mono HB3.out.size)).trans (hb5.mono (Nat.le_trans HB3.out.size hb4.size))
  have hw35 : Below w3.heap.size w3 w5 := hb4.trans (hb5.mono hb4.size)
  have hl5' : Lie w5 (fun k => w3.heap.size ≤ k ∧ k < w5.heap.size) v5 (.wr ⟨#[97]⟩ (.rep L)) := by
    have e : wrapT ⟨#[97]⟩ (missT L) = some (.wr ⟨#[97]⟩ (.rep L)) := by unfold missT; rw [if_neg HNE.out]; rfl
    rw [e] at hl5
    exact (Lie.cap hl5).mono fun k hk => ⟨hk.1.elim id fun h => Nat.le_trans hb4.size h, hk.2⟩
  have hst : OwSt C x (fun k => w3.heap.size ≤ k ∧ k < w5.heap.size) (fun k => wb.heap.size ≤ k ∧ k < w3.heap.size) ad1 cap1 v5 (.slice ad3 L.length cap3) L (.wr ⟨#[97]⟩ (.rep L)) w w5 :=
    ⟨hbC, HG.out.next hwb5, HX.out.below hwb5 HX.out.lt, H1.out.next hwb5, hl5', ⟨L, rfl, (OwnI.above HO3.out).below hw35⟩, HLO.out HNE.out, HC0.out, hx, fun k hk => by have := HCB.out; omega, fun k hk h => by omega⟩
  have HST := Lib.hid hst
  have H5 := Lib.hid (show w3.heap.size ≤ w5.heap.size from hw35.size)
  clear hst hl5' hw35 hwb5 hbC hl4 hl5 hb4 hb5
  go_wp2_with fail
  go_loopw [7] (fun i wr => ∃ k : Nat, k ≤ L.length ∧ i = .int .i64 k ∧ OwSt C x (fun k => w3.heap.size ≤ k ∧ k < w5.heap.size) (fun k => wb.heap.size ≤ k ∧ k < w3.heap.size) ad1 cap1 v5 (.slice ad3 L.length cap3) L (.wr ⟨#[97]⟩ (.rep L)) w wr ∧ w5.heap.size ≤ wr.heap.size) (fun i _ => L.length - (intOf i).toNat)
  case atStart => exact ⟨0, Nat.zero_le _, rfl, HST.out, Nat.le_refl _⟩
  case round =>
    obtain ⟨k, hk, rfl, hS, hsz⟩ := hrel
    have k0 : (0 : Int) ≤ (k : Int) := Int.natCast_nonneg _
    have HSZ := Lib.hid hsz
    clear hsz
    by_cases hlt : k < L.length
    · have kI : (k : Int) < (L.length : Int) := by omega
      have hld := box_load hS.box hx 0
      obtain ⟨b, c, w', hv, hrun, hS', hz'⟩ := hS.put hlt
      obtain ⟨rfl, rfl⟩ : ad3 = some ⟨b, 0, none⟩ ∧ cap3 = c := by injection hv with e1 e2 e3; exact ⟨e1, e3⟩
      have HS' := Lib.hid hS'
      have HZ' := Lib.hid hz'
      clear hS hS' hv hz'
      go_wp2_with (first
        | ((with_reducible refine step_load (t := 47) (x := .tmp 3) (p := ?lpl1) (v := ?lvl1) ?lgl1 ?lol1 ?lxl1 ?lrl1 ?lhl1); (case lgl1 => rfl); (case lol1 => rfl); (case lxl1 => rfl); (case lrl1 => exact hld))
        | ((with_reducible refine step_store_at (x := .tmp 41) (y := .tmp 40) (p := ?wps1) (v := ?wvs1) (w' := ?wws1) ?wgs1 ?wos1 ?wxs1 ?wys1 ?wrs1 ?whs1); (case wgs1 => rfl); (case wos1 => rfl); (case wxs1 => rfl); (case wys1 => rfl); (case wrs1 => exact hrun)))
      go_roundw
      case rel => exact ⟨k + 1, hlt, by push_cast; rfl, HS'.out, Nat.le_trans HSZ.out HZ'.out⟩
      case measure => simp [intOf]; omega
    · have HS := Lib.hid hS
      obtain rfl : k = L.length := by omega
      clear hlt
      have hrp := freport_some (o := some (.wr ⟨#[97]⟩ (.rep L))) (show LieO wr _ v5 _ from hS.err) hS.tab (L := L) (M := []) rfl
      clear hS
      go_upto_region 10 with (go_at_call 12; refine hrp.mono ?_; rintro e w7 ⟨ad7, cap7, rfl, hO7, hb7⟩)
      clear hrp
      have HO7 := Lib.hid hO7
      have HB7 := Lib.hid hb7
      have hids7 := HS.out.ids.next hb7
      have HI7 := Lib.hid hids7
      have hsame := rsame_any L L _ _ _ _ _ _ w7 (hO7.rdv (by have := HLEN.out; omega)).1 hids7
      have hLL : (L == L) = true := beq_self_eq_true L
      rw [hLL] at hsame
      clear hO7 hb7 hids7 hLL
      go_upto_region 12 with (go_at_call 14; refine hsame.mono ?_; rintro e w8 ⟨rfl, m8, rfl⟩)
      clear hsame
      obtain ⟨w8, hw8⟩ : ∃ u, u = w7.drewN m8 := ⟨_, rfl⟩
      have hb8 : Below wr.heap.size wr w8 := by rw [hw8]; exact below_drewN HB7.out m8
      have hO8 : OwnI w8 (fun k => wr.heap.size ≤ k ∧ k < w8.heap.size) (.slice ad7 L.length cap7) L := by rw [hw8]; exact (OwnI.above HO7.out).below (below_drewN (Below.refl _ _) m8)
      have hst : OwSt C x (fun k => w3.heap.size ≤ k ∧ k < w5.heap.size) (fun k => wr.heap.size ≤ k ∧ k < w8.heap.size) ad1 cap1 v5 (.slice ad7 L.length cap7) L (.wr ⟨#[97]⟩ (.rep L)) w w8 := by
        have h := HS.out
        have hwr : C ≤ wr.heap.size := Nat.le_of_lt h.box.lt
        refine ⟨h.below.trans (hb8.mono hwr), h.tab.next hb8, h.box.below hb8 h.box.lt, h.ids.next hb8, h.err.next hb8, ⟨L, rfl, hO8⟩, h.lo, h.c0, h.hx, fun k hk => Nat.lt_of_lt_of_le h.box.lt hk.1, fun k hk h2 => ?_⟩
        have := HSZ.out
        omega
      have HST := Lib.hid hst
      have HW8 := Lib.hid hw8
      refine wp_at hw8.symm ?_
      clear hst hO8 hb8 hw8
      go_wp2_with fail
      go_loopw [10] (fun i wr2 => ∃ k : Nat, k ≤ L.length ∧ i = .int .i64 k ∧ OwSt C x (fun k => w3.heap.size ≤ k ∧ k < w5.heap.size) (fun k => wr.heap.size ≤ k ∧ k < w8.heap.size) ad1 cap1 v5 (.slice ad7 L.length cap7) L (.wr ⟨#[97]⟩ (.rep L)) w wr2) (fun i _ => L.length - (intOf i).toNat)
      case atStart => exact ⟨0, Nat.zero_le _, rfl, HST.out⟩
      case round =>
        obtain ⟨k, hk, rfl, hS⟩ := hrel
        have k0 : (0 : Int) ≤ (k : Int) := Int.natCast_nonneg _
        by_cases hlt : k < L.length
        · have kI : (k : Int) < (L.length : Int) := by omega
          have hld := box_load hS.box hx 0
          obtain ⟨b, c, w', hv, hrun, hS', hz'⟩ := hS.put hlt
          obtain ⟨rfl, rfl⟩ : ad7 = some ⟨b, 0, none⟩ ∧ cap7 = c := by injection hv with e1 e2 e3; exact ⟨e1, e3⟩
          have HS' := Lib.hid hS'
          clear hS hS' hv hz'
          go_wp2_with (first
            | ((with_reducible refine step_load (t := 47) (x := .tmp 3) (p := ?lpl2) (v := ?lvl2) ?lgl2 ?lol2 ?lxl2 ?lrl2 ?lhl2); (case lgl2 => rfl); (case lol2 => rfl); (case lxl2 => rfl); (case lrl2 => exact hld))
            | ((with_reducible refine step_store_at (x := .tmp 64) (y := .tmp 63) (p := ?wps2) (v := ?wvs2) (w' := ?wws2) ?wgs2 ?wos2 ?wxs2 ?wys2 ?wrs2 ?whs2); (case wgs2 => rfl); (case wos2 => rfl); (case wxs2 => rfl); (case wys2 => rfl); (case wrs2 => exact hrun)))
          go_roundw
          case rel => exact ⟨k + 1, hlt, by push_cast; rfl, HS'.out⟩
          case measure => simp [intOf]; omega
        · have HS := Lib.hid hS
          obtain rfl : k = L.length := by omega
          clear hlt
          have hrp := freport_some (o := some (.wr ⟨#[97]⟩ (.rep L))) (show LieO wr _ v5 _ from hS.err) hS.tab (L := L) (M := []) rfl
          clear hS
          go_upto_region 17 with (go_at_call 12; refine hrp.mono ?_; rintro e w9 ⟨ad9, cap9, rfl, hO9, hb9⟩)
          clear hrp
          have hsame := rsame_any L L _ _ _ _ _ _ w9 (hO9.rdv (by have := HLEN.out; omega)).1 (HS.out.ids.next hb9)
          have hLL : (L == L) = true := beq_self_eq_true L
          rw [hLL] at hsame
          have haw := fun m => awake_any (w9.drewN m) ((HS.out.tab.next hb9).next (below_drewN (Below.refl _ _) m))
          have HB9 := Lib.hid hb9
          clear hLL hO9 hb9
          go_wp2_with (first
            | (go_at_call 14; refine hsame.mono ?_; rintro e w10 ⟨rfl, m10, rfl⟩)
            | (go_at_call 15; refine (haw _).mono ?_; rintro e w11 ⟨rfl, hb11⟩))
          go_ret
          have hC := HCC.out
          have h := HS.out
          have hCr : C ≤ wr.heap.size := Nat.le_of_lt h.box.lt
          rw [hC] at h hCr
          exact ⟨rfl, (h.below.trans (HB9.out.mono hCr)).trans ((below_drewN (Below.refl w9.heap.size w9) m10).mono (Nat.le_trans hCr HB9.out.size) |>.trans (hb11.mono (Nat.le_trans hCr HB9.out.size)))⟩
end Go.Proofs.YtlbieneklijpeaaDoor.fault
