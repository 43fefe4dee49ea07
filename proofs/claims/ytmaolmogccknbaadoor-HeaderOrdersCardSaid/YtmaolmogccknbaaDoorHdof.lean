/-
  petrelref08.Of.
-/
import Derived.Test.YtmaolmogccknbaaDoorHdck
namespace Go.Proofs.YtmaolmogccknbaaDoor.hdr
open Go.RowKit Go.Proofs.YtmaolmogccknbaaDoor.mem Go.Proofs.YtmaolmogccknbaaDoor.sha Go.Proofs.YtmaolmogccknbaaDoor.ids
open Go.Proofs.YtmaolmogccknbaaDoor.opn (b1 b2 b4 num txt idl byte rd rdN rdT rdI rdS rdL St Reads Stays endE zid mkId)

theorem run_store_par {w : World} {S : Nat} {t : TypeId} {o : Hd} {u : Value} (h : Blk w S t (hdc o u).toArray) (hr : o.commit.length = 32) (ad : Option Addr) (n c : Nat) :
    (Instr.storeAt 24 (.pointer (some ⟨S, 0, none⟩)) (.slice ad n c)).run Tryd.prog w = .ok () (w.setCell ⟨S, 0, none⟩ (.slice ad n c)) := by
  have c36 := (HdBlk.of h hr).parents
  have hf := h.frozen 0
  go_simp
theorem push_s {S : Nat} {o : Hd} {v : Value} {L : List (List UInt8)} {x : List UInt8} (w : World) (hS : Blk w S 46 (hdc { o with parents := L } v).toArray) (hr : o.commit.length = 32) (hv : OwnI w (S < ·) v L) (hx : x.length = 32) (hL : L.length ≤ 1000) (ty : TypeId) :
    ∃ v' w3, (Builtin.append_ #[24, 24] ty #[v, .slice (some ⟨w.heap.size, 0, none⟩) 1 1]).run Tryd.prog (w.alloc (.cells (bv x).toArray 23)) = .ok v' w3 ∧
      (Instr.storeAt 24 (.pointer (some ⟨S, 0, none⟩)) v').run Tryd.prog w3 = .ok () (w3.setCell ⟨S, 0, none⟩ v') ∧
      Blk (w3.setCell ⟨S, 0, none⟩ v') S 46 (hdc { o with parents := L ++ [x] } v').toArray ∧ OwnI (w3.setCell ⟨S, 0, none⟩ v') (S < ·) v' (L ++ [x]) ∧ Turn (S ≤ ·) w (w3.setCell ⟨S, 0, none⟩ v') := by
  have hlt := hS.lt
  obtain ⟨v', w3, hrun, ho, ht⟩ := run_append_one hv hx (by omega) (fun k hk => Nat.lt_of_lt_of_le hlt hk) ty
  have hS3 : Blk w3 S 46 (hdc { o with parents := L } v).toArray := hS.turn ht fun h => by
    rcases h with h | h
    · have h2 : S < S := hv.2.2 S h
      omega
    · omega
  obtain ⟨ad, cap, hvf, -, -⟩ := ho.form
  refine ⟨v', w3, hrun, ?_, hdm_parents hS3 (L ++ [x]) v', ?_, ?_⟩
  · rw [hvf]; exact run_store_par hS3 hr ad _ cap
  · exact ho.turn ((Turn.refl (· = S) w3).setCell rfl _) fun k hk h => by
      have h2 : S < k := ho.2.2 k hk
      omega
  · refine (ht.mono fun k hk => ?_).trans ((Turn.refl (S ≤ ·) w3).setCell (Nat.le_refl S) _)
    rcases hk with hk | hk
    · exact Nat.le_of_lt (hv.2.2 k hk)
    · omega
theorem rdL_len : ∀ (n : Nat) (st : St), (rdL n st).1.length = n
  | 0, _ => rfl
  | n + 1, st => by show (_ :: _).length = _; rw [List.length_cons, rdL_len n]
theorem rdL_snoc : ∀ (n : Nat) (st : St), rdL (n + 1) st = ((rdL n st).1 ++ [(rdI (rdL n st).2).1], (rdI (rdL n st).2).2)
  | 0, _ => rfl
  | n + 1, st => by
    have := rdL_snoc n (rdI st).2
    show ((rdI st).1 :: (rdL (n + 1) (rdI st).2).1, (rdL (n + 1) (rdI st).2).2) = _
    rw [this]
    rfl
theorem rdT_len (st : St) : (rdT st).1.length ≤ 255 := by
  show (rd (rdN 1 st).1.toNat (rdN 1 st).2).1.length ≤ 255
  have h1 := opn.rdN1_lt st
  have h2 := opn.rdN_nonneg 1 st
  rcases opn.rd_len (rdN 1 st).1.toNat (rdN 1 st).2 with h | h <;> omega
/-- what stands while a header is read: what was read so far, its parents of the call's own, the Reader, the result -/
def OfS (w : World) (R S : Nat) (o : Hd) (s : St) (wr : World) (v : Value) : Prop := Blk wr S 46 (hdc o v).toArray ∧ OwnI wr (S < ·) v o.parents ∧ opn.RdrS wr (R + 1) s ∧ Blk wr R 46 (hdc zhd nv).toArray ∧ Below w.heap.size w wr
theorem OfS.rdr {w : World} {R S : Nat} {o : Hd} {s : St} {wr : World} {v : Value} (h : OfS w R S o s wr v) : opn.RdrS wr (R + 1) s := h.2.2.1
theorem OfS.read {w : World} {R S : Nat} {o : Hd} {s s2 : St} {wr w2 : World} {v : Value} (h : OfS w R S o s wr v) (hRS : R + 1 < S) (hw : w.heap.size ≤ R) {F : Nat → Prop} (ht : Turn F wr w2) (hF : ∀ b, F b → b = R + 1 ∨ wr.heap.size ≤ b) (hr : opn.RdrS w2 (R + 1) s2) : OfS w R S o s2 w2 v := by
  obtain ⟨h1, h2, h3, h4, h5⟩ := h
  have hS := h1.lt
  refine ⟨h1.turn ht fun hb => by rcases hF _ hb with e | e <;> omega, h2.turn ht fun k hk hb => ?_, hr, h4.turn ht fun hb => by rcases hF _ hb with e | e <;> omega, h5.trans (ht.below fun b hb => by rcases hF _ hb with e | e <;> have := h5.size <;> omega)⟩
  have a : S < k := h2.2.2 k hk
  have b := h2.lt hk
  rcases hF _ hb with e | e <;> omega
theorem OfS.put {w : World} {R S : Nat} {o o' : Hd} {s : St} {w2 w3 : World} {v : Value} (h : OfS w R S o s w2 v) (hRS : R + 1 < S) (hw : w.heap.size ≤ R) (ht : Turn (· = S) w2 w3) (hS : Blk w3 S 46 (hdc o' v).toArray) (hp : o'.parents = o.parents) : OfS w R S o' s w3 v := by
  obtain ⟨h1, h2, h3, h4, h5⟩ := h
  refine ⟨hS, ?_, h3.turn ht (by omega), h4.turn ht (by omega), h5.trans (ht.below fun b hb => by omega)⟩
  rw [hp]
  exact h2.turn ht fun k hk e => by
    have a : S < k := h2.2.2 k hk
    omega

set_option maxHeartbeats 4000000 in
set_option maxRecDepth 100000 in
theorem of_any (s : ByteArray) (w : World) (hs : s.size ≤ 100000) :
    Calls Tryd.prog 32 #[.string s] w fun e w' => ∃ v, e = .returned (.tuple #[hdv (ofH s.data.toList).1 v, .int .i64 (ofH s.data.toList).2]) ∧ RdV w' v (ofH s.data.toList).1.parents ∧ Below w.heap.size w w' := by
  obtain ⟨R, hR⟩ : ∃ S, S = w.heap.size := ⟨_, rfl⟩
  have HR := Lib.hid hR
  have hsl : s.size = s.data.toList.length := by rw [Array.length_toList]; rfl
  obtain ⟨l, hl⟩ : ∃ l, l = s.data.toList := ⟨_, rfl⟩
  rw [← hl] at hsl ⊢
  by_cases hbig : 256 < s.size
  · have i1 : (256 : Int) < (s.size : Int) := by omega
    have HE : Hid (ofH l = (zhd, 3)) := Lib.hid (by unfold ofH; rw [if_pos (by omega)])
    obtain ⟨w1, hw1⟩ : ∃ u, u = w.alloc (.cells (hdc zhd nv).toArray 46) := ⟨_, rfl⟩
    have hX : Blk w1 R 46 (hdc zhd nv).toArray := by rw [hw1, hR]; exact Blk.new w _ _
    have hB : Below w.heap.size w w1 := by rw [hw1]; exact (Below.refl _ _).alloc (Nat.le_refl _) _
    have hrun := run_store_hd hX (hdc_size _ _ zcom) zhd nv zcom nv_one
    have hst := setRow_heap w1 R _ (hdc zhd nv).toArray _ _ hX
    have HRUN := Lib.hid hrun
    have HB := Lib.hid hB
    have HW := Lib.hid hw1
    clear hbig hrun hB hw1 hX hs hsl hl hR
    go_enter Tryd.func32, Tryd.ntmps32
    go_upto_region 1 with fail
    refine wp_at HW.out.symm ?_
    rw [← HR.out]
    clear HW
    go_wp2_with (first
      | ((with_reducible refine step_build (t := 46) (parts := #[]) (ps := #[]) (v := ?bvz0) ?bgz0 ?boz0 ?bxz0 ?brz0 ?bhz0); (case bgz0 => rfl); (case boz0 => rfl); (case bxz0 => simp); (case brz0 => exact run_build_z _))
      | ((with_reducible refine step_store_run (t := 46) (x := .tmp 2) (y := .tmp 12) (p := ?spt0) (v := ?svt0) (w' := ?swt0) ?sgt0 ?sot0 ?sxt0 ?syt0 ?srt0 ?sht0); (case sgt0 => rfl); (case sot0 => rfl); (case sxt0 => rfl); (case syt0 => rfl); (case srt0 => exact HRUN.out)))
    refine bodyPost_ret (results_hd rfl _ _ R _ zhd nv rfl hst zcom) rfl ⟨nv, by rw [HE.out]; rfl, by rw [HE.out]; exact nv_rd _, below_row' HB.out (by rw [HR.out]; exact Nat.le_refl _) _⟩
  have i1 : (s.size : Int) ≤ 256 := by omega
  obtain ⟨w1, hw1⟩ : ∃ u, u = (w.alloc (.cells (hdc zhd nv).toArray 46)).alloc (.cells #[.string s, .int .i64 0] 86) := ⟨_, rfl⟩
  have hX : Blk w1 R 46 (hdc zhd nv).toArray := by rw [hw1, hR]; exact (Blk.new w _ _).alloc _
  have hG : opn.RdrS w1 (R + 1) (l, 0) := ⟨s, 0, by rw [hw1, hR]; exact Blk.at_ (by simp) _ _, rfl, fun _ => by rw [hl]; exact (oct.tx_eta s).symm⟩
  have hB : Below w.heap.size w w1 := by rw [hw1]; exact ((Below.refl _ _).alloc (Nat.le_refl _) _).alloc (by simp) _
  have hsz : w1.heap.size = R + 2 := by rw [hw1, hR]; simp
  have HOF := Lib.hid (ofH_eq l (by omega))
  have HX := Lib.hid hX
  have HG := Lib.hid hG
  have HB := Lib.hid hB
  have HW := Lib.hid hw1
  have HSZ := Lib.hid hsz
  have hst2 := run_hold w1 zhd nv zcom nv_one
  have HST2 := Lib.hid hst2
  clear hX hG hB hw1 hR hsz hl hs hsl hbig hst2
  have HWR : Hid (w.heap.size ≤ R) := Lib.hid (by rw [HR.out]; exact Nat.le_refl _)
  go_enter Tryd.func32, Tryd.ntmps32
  go_upto_region 4 with fail
  refine wp_at HW.out.symm ?_
  rw [← HR.out]
  clear HW
  go_cut [5] from 16 to 16 (fun p5 wx => ∃ S, p5 = .pointer (some ⟨S, 0, none⟩) ∧ R + 1 < S ∧ OfS w R S zhd (l, 0) wx nv)
  case first =>
    go_wp2_with (first
      | ((with_reducible refine step_build (t := 46) (parts := #[]) (ps := #[]) (v := ?bvz1) ?bgz1 ?boz1 ?bxz1 ?brz1 ?bhz1); (case bgz1 => rfl); (case boz1 => rfl); (case bxz1 => simp); (case brz1 => exact run_build_z _))
      | ((with_reducible refine step_store_run (t := 46) (x := .tmp 5) (y := .tmp 16) (p := ?spt1) (v := ?svt1) (w' := ?swt1) ?sgt1 ?sot1 ?sxt1 ?syt1 ?srt1 ?sht1); (case sgt1 => rfl); (case sot1 => rfl); (case sxt1 => rfl); (case syt1 => rfl); (case srt1 => exact HST2.out)))
    go_meet
    have hT := held_below w1 zhd nv
    have hT2 := Turn.ofBelow hT
    refine ⟨w1.heap.size, rfl, by rw [HSZ.out]; omega, held_blk w1 zhd nv, OwnI.nil _ _, HG.out.turn hT2 ?_, HX.out.turn hT2 ?_, HB.out.trans (hT.mono HB.out.size)⟩
    · have := HSZ.out; omega
    · have := HSZ.out; omega
  case rest =>
    obtain ⟨S, rfl, hRS, hof⟩ := hcut
    obtain ⟨st, hst⟩ : ∃ st, st = (rdN 1 (l, 0)).2 := ⟨_, rfl⟩
    obtain ⟨m, hm⟩ : ∃ k, k = (rdN 1 (l, 0)).1 := ⟨_, rfl⟩
    have HRH : Hid (rdH (l, 0) = rd2 (rdL m.toNat st).1 (rdL m.toNat st).2) := Lib.hid (by rw [hm, hst]; rfl)
    have HN1 := opn.num1_s (R + 1) (l, 0) wc hof.2.2.1
    rw [← hst, ← hm] at HN1
    have HN1 := Lib.hid HN1
    have HOF0 := Lib.hid hof
    have m0 : 0 ≤ m := by rw [hm]; exact opn.rdN_nonneg _ _
    have m1 : m < 256 := by rw [hm]; exact opn.rdN1_lt _
    clear HX HG HB HSZ hst hm hof HST2
    go_wp2_with (go_at_call 58; (with_reducible refine HN1.out.mono ?_); rintro e w2 ⟨rfl, hr2, ht2⟩; have h2 := HOF0.out.read hRS HWR.out ht2 (fun b hb => .inl hb) hr2; have HO2 := Lib.hid h2; clear h2 hr2 ht2)
    go_loopw [7] (fun kk wr => ∃ (i : Nat) (v : Value), (i : Int) ≤ m ∧ kk = .int .i64 (i : Int) ∧ OfS w R S { zhd with parents := (rdL i st).1 } (rdL i st).2 wr v) (fun kk _ => m.toNat - (intOf kk).toNat)
    case atStart => exact ⟨0, nv, m0, rfl, HO2.out⟩
    case round =>
      obtain ⟨i, v, hi, rfl, ho⟩ := hrel
      have i0 : (0 : Int) ≤ (i : Int) := Int.natCast_nonneg _
      by_cases hin : (i : Int) < m
      · go_upto_region 9 with fail
        have hin : ((i + 1 : Nat) : Int) ≤ m := by omega
        have hod : OfS w R S { zhd with parents := (rdL i st).1 } (rdL i st).2 wr.drew v := ho.read hRS HWR.out (Turn.drew (Turn.refl (fun _ => False) wr)) (fun b hb => hb.elim) (ho.2.2.1.turn (Turn.drew (Turn.refl (fun _ => False) wr)) (fun h => h))
        have c36 := (HdBlk.of hod.1 zcom).parents
        have HGD := Lib.hid hod.2.2.1
        have HOD := Lib.hid hod
        have HEQ : ∀ v' u, OfS w R S { zhd with parents := (rdL i st).1 ++ [(rdI (rdL i st).2).1] } (rdI (rdL i st).2).2 u v' → OfS w R S { zhd with parents := (rdL (i + 1) st).1 } (rdL (i + 1) st).2 u v' := fun v' u h => by rw [rdL_snoc]; exact h
        have HEQ := Lib.hid HEQ
        clear ho hod hi
        refine wp_region_any (by kernel_rfl) ?_
        refine' wpAny_take (i := 0) ?hizh1 (by kernel_rfl) (by kernel_rfl) (by kernel_rfl) ?hqzh1 (Or.inl ⟨?hwzh1, ?hyzh1⟩) ?hrzh1
        case hizh1 => (simp only [List.getElem?_toArray, List.getElem?_cons_succ, List.getElem?_cons_zero]; rfl)
        case hqzh1 => exact fun _ _ _ h => h
        case hwzh1 => rfl
        case hyzh1 => (intro w0; go_simp; try with_reducible rfl)
        (try simp only [Act.put, List.setIfInBounds_toArray, List.set_cons_zero, List.set_cons_succ])
        refine' wpAny_take (i := 2) ?hizh2 (by kernel_rfl) (by kernel_rfl) (by kernel_rfl) ?hqzh2 (Or.inl ⟨?hwzh2, ?hyzh2⟩) ?hrzh2
        case hizh2 => (simp only [List.getElem?_toArray, List.getElem?_cons_succ, List.getElem?_cons_zero]; rfl)
        case hqzh2 => exact fun _ _ _ h => h
        case hwzh2 => rfl
        case hyzh2 => (intro w0; go_simp; try with_reducible rfl)
        (try simp only [Act.put, List.setIfInBounds_toArray, List.set_cons_zero, List.set_cons_succ])
        refine wpAny_ready (rs := [1, 3]) (by kernel_rfl) (by simp) ?_
        refine' AllReady.cons ?hazh17 (fun K hK => ?hczh17) (AllReady.cons ?hbzh17 (fun K hK => ?hdzh17) AllReady.nil)
        case hazh17 => (simp only [List.getElem?_toArray, List.getElem?_cons_succ, List.getElem?_cons_zero]; rfl)
        case hbzh17 => (simp only [List.getElem?_toArray, List.getElem?_cons_succ, List.getElem?_cons_zero]; rfl)
        case hczh17 =>
          go_simp
          refine hK _ _ ?_
          clear hK K
          (try simp only [Act.put, List.setIfInBounds_toArray, List.set_cons_zero, List.set_cons_succ])
          refine wpAny_ready (rs := [3]) (by kernel_rfl) (by simp) ?_
          refine' AllReady.cons ?hizh3 (fun K hK => ?hrzh3) AllReady.nil
          case hizh3 => (simp only [List.getElem?_toArray, List.getElem?_cons_succ, List.getElem?_cons_zero]; rfl)
          go_simp
          (refine (opn.id_s (fun b => b = R + 1 ∨ wr.drew.heap.size ≤ b) (R + 1) (rdL i st).2 wr.drew HGD.out (.inl rfl) (fun b hb => .inr hb)).mono ?_; rintro e w3 ⟨rfl, hr3, ht3⟩)
          have h3 := HOD.out.read hRS HWR.out ht3 (fun b hb => hb) hr3
          have c36b := (HdBlk.of h3.1 zcom).parents
          refine hK _ _ ?_
          clear hK K
          (try simp only [Act.put, List.setIfInBounds_toArray, List.set_cons_zero, List.set_cons_succ])
          refine wpAny_ready (rs := [4]) (by kernel_rfl) (by simp) ?_
          refine' AllReady.cons ?hizh4 (fun K hK => ?hrzh4) AllReady.nil
          case hizh4 => (simp only [List.getElem?_toArray, List.getElem?_cons_succ, List.getElem?_cons_zero]; rfl)
          refine want_build1 (y := (rdI (rdL i st).2).1) rfl rfl rfl (opn.rdI_len _) (hK _ _ ?_)
          clear hK K
          (try simp only [Act.put, List.setIfInBounds_toArray, List.set_cons_zero, List.set_cons_succ])
          obtain ⟨v', w4, hap, hsr, hS', ho', ht'⟩ := push_s w3 h3.1 zcom h3.2.1 (opn.rdI_len (rdL i st).2) (by rw [rdL_len]; omega) 24
          have hR' := h3.2.2.1.turn ht' (by omega)
          have hX' := h3.2.2.2.1.turn ht' (by omega)
          have hB' := h3.2.2.2.2.trans (ht'.below fun b hb => by have := HWR.out; omega)
          refine wpAny_ready (rs := [5]) (by kernel_rfl) (by simp) ?_
          refine' AllReady.cons ?hizh5 (fun K hK => ?hrzh5) AllReady.nil
          case hizh5 => (simp only [List.getElem?_toArray, List.getElem?_cons_succ, List.getElem?_cons_zero]; rfl)
          refine want_append rfl rfl rfl rfl hap (hK _ _ ?_)
          clear hK K
          (try simp only [Act.put, List.setIfInBounds_toArray, List.set_cons_zero, List.set_cons_succ])
          refine' wpAny_take (i := 6) ?hizh6 (by kernel_rfl) (by kernel_rfl) (by kernel_rfl) ?hqzh6 (Or.inl ⟨?hwzh6, ?hyzh6⟩) ?hrzh6
          case hizh6 => (simp only [List.getElem?_toArray, List.getElem?_cons_succ, List.getElem?_cons_zero]; rfl)
          case hqzh6 => exact fun _ _ _ h => h
          case hwzh6 => rfl
          case hyzh6 => (intro w0; go_simp; try with_reducible rfl)
          (try simp only [Act.put, List.setIfInBounds_toArray, List.set_cons_zero, List.set_cons_succ])
          refine wpAny_ready (rs := [7]) (by kernel_rfl) (by simp) ?_
          refine' AllReady.cons ?hizh7 (fun K hK => ?hrzh7) AllReady.nil
          case hizh7 => (simp only [List.getElem?_toArray, List.getElem?_cons_succ, List.getElem?_cons_zero]; rfl)
          refine want_store_run rfl rfl rfl rfl hsr (hK _ _ ?_)
          clear hK K
          (try simp only [Act.put, List.setIfInBounds_toArray, List.set_cons_zero, List.set_cons_succ])
          refine wpAny_done (by kernel_rfl) ?_ _
          go_wp2_with fail
          exact ⟨⟨i + 1, v', hin, by push_cast; rfl, HEQ.out v' _ ⟨hS', ho', hR', hX', hB'⟩⟩, by simp [intOf]; omega⟩
        case hdzh17 =>
          go_simp
          (refine (opn.id_s (fun b => b = R + 1 ∨ wr.drew.heap.size ≤ b) (R + 1) (rdL i st).2 wr.drew HGD.out (.inl rfl) (fun b hb => .inr hb)).mono ?_; rintro e w3 ⟨rfl, hr3, ht3⟩)
          have h3 := HOD.out.read hRS HWR.out ht3 (fun b hb => hb) hr3
          have c36b := (HdBlk.of h3.1 zcom).parents
          refine hK _ _ ?_
          clear hK K
          (try simp only [Act.put, List.setIfInBounds_toArray, List.set_cons_zero, List.set_cons_succ])
          refine wpAny_ready (rs := [1, 4]) (by kernel_rfl) (by simp) ?_
          refine' AllReady.cons ?hazh16 (fun K hK => ?hczh16) (AllReady.cons ?hbzh16 (fun K hK => ?hdzh16) AllReady.nil)
          case hazh16 => (simp only [List.getElem?_toArray, List.getElem?_cons_succ, List.getElem?_cons_zero]; rfl)
          case hbzh16 => (simp only [List.getElem?_toArray, List.getElem?_cons_succ, List.getElem?_cons_zero]; rfl)
          case hczh16 =>
            go_simp
            refine hK _ _ ?_
            clear hK K
            (try simp only [Act.put, List.setIfInBounds_toArray, List.set_cons_zero, List.set_cons_succ])
            refine wpAny_ready (rs := [4]) (by kernel_rfl) (by simp) ?_
            refine' AllReady.cons ?hizh8 (fun K hK => ?hrzh8) AllReady.nil
            case hizh8 => (simp only [List.getElem?_toArray, List.getElem?_cons_succ, List.getElem?_cons_zero]; rfl)
            refine want_build1 (y := (rdI (rdL i st).2).1) rfl rfl rfl (opn.rdI_len _) (hK _ _ ?_)
            clear hK K
            (try simp only [Act.put, List.setIfInBounds_toArray, List.set_cons_zero, List.set_cons_succ])
            obtain ⟨v', w4, hap, hsr, hS', ho', ht'⟩ := push_s w3 h3.1 zcom h3.2.1 (opn.rdI_len (rdL i st).2) (by rw [rdL_len]; omega) 24
            have hR' := h3.2.2.1.turn ht' (by omega)
            have hX' := h3.2.2.2.1.turn ht' (by omega)
            have hB' := h3.2.2.2.2.trans (ht'.below fun b hb => by have := HWR.out; omega)
            refine wpAny_ready (rs := [5]) (by kernel_rfl) (by simp) ?_
            refine' AllReady.cons ?hizh9 (fun K hK => ?hrzh9) AllReady.nil
            case hizh9 => (simp only [List.getElem?_toArray, List.getElem?_cons_succ, List.getElem?_cons_zero]; rfl)
            refine want_append rfl rfl rfl rfl hap (hK _ _ ?_)
            clear hK K
            (try simp only [Act.put, List.setIfInBounds_toArray, List.set_cons_zero, List.set_cons_succ])
            refine' wpAny_take (i := 6) ?hizh10 (by kernel_rfl) (by kernel_rfl) (by kernel_rfl) ?hqzh10 (Or.inl ⟨?hwzh10, ?hyzh10⟩) ?hrzh10
            case hizh10 => (simp only [List.getElem?_toArray, List.getElem?_cons_succ, List.getElem?_cons_zero]; rfl)
            case hqzh10 => exact fun _ _ _ h => h
            case hwzh10 => rfl
            case hyzh10 => (intro w0; go_simp; try with_reducible rfl)
            (try simp only [Act.put, List.setIfInBounds_toArray, List.set_cons_zero, List.set_cons_succ])
            refine wpAny_ready (rs := [7]) (by kernel_rfl) (by simp) ?_
            refine' AllReady.cons ?hizh11 (fun K hK => ?hrzh11) AllReady.nil
            case hizh11 => (simp only [List.getElem?_toArray, List.getElem?_cons_succ, List.getElem?_cons_zero]; rfl)
            refine want_store_run rfl rfl rfl rfl hsr (hK _ _ ?_)
            clear hK K
            (try simp only [Act.put, List.setIfInBounds_toArray, List.set_cons_zero, List.set_cons_succ])
            refine wpAny_done (by kernel_rfl) ?_ _
            go_wp2_with fail
            exact ⟨⟨i + 1, v', hin, by push_cast; rfl, HEQ.out v' _ ⟨hS', ho', hR', hX', hB'⟩⟩, by simp [intOf]; omega⟩
          case hdzh16 =>
            refine want_build1 (y := (rdI (rdL i st).2).1) rfl rfl rfl (opn.rdI_len _) (hK _ _ ?_)
            clear hK K
            (try simp only [Act.put, List.setIfInBounds_toArray, List.set_cons_zero, List.set_cons_succ])
            have c36c := (HdBlk.of (h3.1.alloc (.cells (bv (rdI (rdL i st).2).1).toArray 23)) zcom).parents
            refine wpAny_ready (rs := [1]) (by kernel_rfl) (by simp) ?_
            refine' AllReady.cons ?hizh12 (fun K hK => ?hrzh12) AllReady.nil
            case hizh12 => (simp only [List.getElem?_toArray, List.getElem?_cons_succ, List.getElem?_cons_zero]; rfl)
            go_simp
            refine hK _ _ ?_
            clear hK K
            (try simp only [Act.put, List.setIfInBounds_toArray, List.set_cons_zero, List.set_cons_succ])
            obtain ⟨v', w4, hap, hsr, hS', ho', ht'⟩ := push_s w3 h3.1 zcom h3.2.1 (opn.rdI_len (rdL i st).2) (by rw [rdL_len]; omega) 24
            have hR' := h3.2.2.1.turn ht' (by omega)
            have hX' := h3.2.2.2.1.turn ht' (by omega)
            have hB' := h3.2.2.2.2.trans (ht'.below fun b hb => by have := HWR.out; omega)
            refine wpAny_ready (rs := [5]) (by kernel_rfl) (by simp) ?_
            refine' AllReady.cons ?hizh13 (fun K hK => ?hrzh13) AllReady.nil
            case hizh13 => (simp only [List.getElem?_toArray, List.getElem?_cons_succ, List.getElem?_cons_zero]; rfl)
            refine want_append rfl rfl rfl rfl hap (hK _ _ ?_)
            clear hK K
            (try simp only [Act.put, List.setIfInBounds_toArray, List.set_cons_zero, List.set_cons_succ])
            refine' wpAny_take (i := 6) ?hizh14 (by kernel_rfl) (by kernel_rfl) (by kernel_rfl) ?hqzh14 (Or.inl ⟨?hwzh14, ?hyzh14⟩) ?hrzh14
            case hizh14 => (simp only [List.getElem?_toArray, List.getElem?_cons_succ, List.getElem?_cons_zero]; rfl)
            case hqzh14 => exact fun _ _ _ h => h
            case hwzh14 => rfl
            case hyzh14 => (intro w0; go_simp; try with_reducible rfl)
            (try simp only [Act.put, List.setIfInBounds_toArray, List.set_cons_zero, List.set_cons_succ])
            refine wpAny_ready (rs := [7]) (by kernel_rfl) (by simp) ?_
            refine' AllReady.cons ?hizh15 (fun K hK => ?hrzh15) AllReady.nil
            case hizh15 => (simp only [List.getElem?_toArray, List.getElem?_cons_succ, List.getElem?_cons_zero]; rfl)
            refine want_store_run rfl rfl rfl rfl hsr (hK _ _ ?_)
            clear hK K
            (try simp only [Act.put, List.setIfInBounds_toArray, List.set_cons_zero, List.set_cons_succ])
            refine wpAny_done (by kernel_rfl) ?_ _
            go_wp2_with fail
            exact ⟨⟨i + 1, v', hin, by push_cast; rfl, HEQ.out v' _ ⟨hS', ho', hR', hX', hB'⟩⟩, by simp [intOf]; omega⟩
      · obtain rfl : m = (i : Int) := by omega
        rw [Int.toNat_natCast] at HRH
        have hpl : (rdL i st).1.length ≤ 255 := by rw [rdL_len]; omega
        obtain ⟨P, hP⟩ : ∃ P, P = (rdL i st).1 := ⟨_, rfl⟩
        obtain ⟨t1, ht1⟩ : ∃ t, t = (rdL i st).2 := ⟨_, rfl⟩
        rw [← hP] at ho HRH hpl
        rw [← ht1] at ho HRH
        have HPL := Lib.hid hpl
        have HO := Lib.hid ho
        clear ho hi hin hP ht1 hpl HOF0 HN1 HO2 m0 m1
        have HO : Hid (OfS w R S (⟨P, zhd.height, zhd.topic, zhd.author, zhd.seq, zhd.size, zhd.commit⟩ : Hd) t1 wr v) := Lib.hid HO.out
        obtain ⟨x0, hx0⟩ : ∃ x, x = (rdN 4 t1).1 := ⟨_, rfl⟩
        obtain ⟨t2, ht2⟩ : ∃ x, x = (rdN 4 t1).2 := ⟨_, rfl⟩
        have HC := opn.num4_s (R + 1) t1 wr HO.out.2.2.1
        rw [← hx0, ← ht2] at HC
        have HC := Lib.hid HC
        have HX0 : Hid (x0 = (rdN 4 t1).1 ∧ t2 = (rdN 4 t1).2) := Lib.hid ⟨hx0, ht2⟩
        clear hx0 ht2
        go_upto_region 11 with (go_at_call 58; (with_reducible refine HC.out.mono ?_); rintro e w2 ⟨rfl, hr0, ht0⟩; have h2 := HO.out.read hRS HWR.out ht0 (fun b hb => .inl hb) hr0; have HO0 := Lib.hid h2; have cc := (HdBlk.of h2.1 zcom).height; have ff := h2.1.frozen 1; clear h2 hr0 ht0)
        have HO : Hid (OfS w R S (⟨P, x0, zhd.topic, zhd.author, zhd.seq, zhd.size, zhd.commit⟩ : Hd) t2 (w2.setCell ⟨S, 1, none⟩ (.int .i64 x0)) v) := Lib.hid (HO0.out.put hRS HWR.out ((Turn.refl (· = S) w2).setCell rfl _) (hdm_height HO0.out.1 x0) rfl)
        obtain ⟨u2, hw0⟩ : ∃ u, u = w2.setCell ⟨S, 1, none⟩ (.int .i64 x0) := ⟨_, rfl⟩
        rw [← hw0] at HO
        refine wp_at hw0.symm ?_
        clear hw0 cc ff HO0 HC
        obtain ⟨mt, hmt⟩ : ∃ x, x = (rdN 1 t2).1 := ⟨_, rfl⟩
        obtain ⟨s2, hs2⟩ : ∃ x, x = (rdN 1 t2).2 := ⟨_, rfl⟩
        have mt0 : 0 ≤ mt := by rw [hmt]; exact opn.rdN_nonneg _ _
        obtain ⟨x1, hx⟩ : ∃ x, x = (rd mt.toNat s2).1 := ⟨_, rfl⟩
        obtain ⟨t3, htn⟩ : ∃ x, x = (rd mt.toNat s2).2 := ⟨_, rfl⟩
        have HX1 : Hid (x1 = (rdT t2).1 ∧ t3 = (rdT t2).2) := Lib.hid ⟨by rw [hx, hmt, hs2]; rfl, by rw [htn, hmt, hs2]; rfl⟩
        have HC := opn.num1_s (R + 1) t2 u2 HO.out.2.2.1
        rw [← hmt, ← hs2] at HC
        have HC := Lib.hid HC
        have HRW := fun u (h : opn.RdrS u (R + 1) s2) => opn.raw_s (R + 1) s2 mt mt0 u h
        rw [← hx, ← htn] at HRW
        have HRW := Lib.hid HRW
        clear hx htn hmt hs2
        obtain ⟨bx, hbx⟩ : ∃ b, b = oct.tx x1 := ⟨_, rfl⟩
        rw [← hbx] at HRW
        have HBX := Lib.hid hbx
        clear hbx
        go_upto_region 12 with (first
          | (go_at_call 58; (with_reducible refine HC.out.mono ?_); rintro e w3a ⟨rfl, hra, hta⟩; have h2 := HO.out.read hRS HWR.out hta (fun b hb => .inl hb) hra; have HOa := Lib.hid h2; clear h2 hra hta)
          | (go_at_call 59; (with_reducible refine (HRW.out _ HOa.out.rdr).mono ?_); rintro e w3 ⟨rfl, hrb, htb⟩; have h2 := HOa.out.read hRS HWR.out htb (fun b hb => .inl hb) hrb; have HO1 := Lib.hid h2; have cc := (HdBlk.of h2.1 zcom).topic; have ff := h2.1.frozen 2; clear h2 hrb htb))
        have HO : Hid (OfS w R S (⟨P, x0, x1, zhd.author, zhd.seq, zhd.size, zhd.commit⟩ : Hd) t3 (w3.setCell ⟨S, 2, none⟩ (.string bx)) v) := Lib.hid (by rw [HBX.out]; exact HO1.out.put hRS HWR.out ((Turn.refl (· = S) w3).setCell rfl _) (hdm_topic HO1.out.1 x1) rfl)
        obtain ⟨u3, hw1⟩ : ∃ u, u = w3.setCell ⟨S, 2, none⟩ (.string bx) := ⟨_, rfl⟩
        rw [← hw1] at HO
        refine wp_at hw1.symm ?_
        clear hw1 cc ff HO1 HOa HC HRW
        obtain ⟨x2, hx2⟩ : ∃ x, x = (rdN 1 t3).1 := ⟨_, rfl⟩
        obtain ⟨t4, ht4⟩ : ∃ x, x = (rdN 1 t3).2 := ⟨_, rfl⟩
        have HC := opn.num1_s (R + 1) t3 u3 HO.out.2.2.1
        rw [← hx2, ← ht4] at HC
        have HC := Lib.hid HC
        have HX2 : Hid (x2 = (rdN 1 t3).1 ∧ t4 = (rdN 1 t3).2) := Lib.hid ⟨hx2, ht4⟩
        clear hx2 ht4
        go_upto_region 13 with (go_at_call 58; (with_reducible refine HC.out.mono ?_); rintro e w4 ⟨rfl, hr2, ht2⟩; have h2 := HO.out.read hRS HWR.out ht2 (fun b hb => .inl hb) hr2; have HO2 := Lib.hid h2; have cc := (HdBlk.of h2.1 zcom).author; have ff := h2.1.frozen 3; clear h2 hr2 ht2)
        have HO : Hid (OfS w R S (⟨P, x0, x1, x2, zhd.seq, zhd.size, zhd.commit⟩ : Hd) t4 (w4.setCell ⟨S, 3, none⟩ (.int .i64 x2)) v) := Lib.hid (HO2.out.put hRS HWR.out ((Turn.refl (· = S) w4).setCell rfl _) (hdm_author HO2.out.1 x2) rfl)
        obtain ⟨u4, hw2⟩ : ∃ u, u = w4.setCell ⟨S, 3, none⟩ (.int .i64 x2) := ⟨_, rfl⟩
        rw [← hw2] at HO
        refine wp_at hw2.symm ?_
        clear hw2 cc ff HO2 HC
        obtain ⟨x3, hx3⟩ : ∃ x, x = (rdN 4 t4).1 := ⟨_, rfl⟩
        obtain ⟨t5, ht5⟩ : ∃ x, x = (rdN 4 t4).2 := ⟨_, rfl⟩
        have HC := opn.num4_s (R + 1) t4 u4 HO.out.2.2.1
        rw [← hx3, ← ht5] at HC
        have HC := Lib.hid HC
        have HX3 : Hid (x3 = (rdN 4 t4).1 ∧ t5 = (rdN 4 t4).2) := Lib.hid ⟨hx3, ht5⟩
        clear hx3 ht5
        go_upto_region 14 with (go_at_call 58; (with_reducible refine HC.out.mono ?_); rintro e w5 ⟨rfl, hr3, ht3⟩; have h2 := HO.out.read hRS HWR.out ht3 (fun b hb => .inl hb) hr3; have HO3 := Lib.hid h2; have cc := (HdBlk.of h2.1 zcom).seq; have ff := h2.1.frozen 4; clear h2 hr3 ht3)
        have HO : Hid (OfS w R S (⟨P, x0, x1, x2, x3, zhd.size, zhd.commit⟩ : Hd) t5 (w5.setCell ⟨S, 4, none⟩ (.int .i64 x3)) v) := Lib.hid (HO3.out.put hRS HWR.out ((Turn.refl (· = S) w5).setCell rfl _) (hdm_seq HO3.out.1 x3) rfl)
        obtain ⟨u5, hw3⟩ : ∃ u, u = w5.setCell ⟨S, 4, none⟩ (.int .i64 x3) := ⟨_, rfl⟩
        rw [← hw3] at HO
        refine wp_at hw3.symm ?_
        clear hw3 cc ff HO3 HC
        obtain ⟨x4, hx4⟩ : ∃ x, x = (rdN 2 t5).1 := ⟨_, rfl⟩
        obtain ⟨t6, ht6⟩ : ∃ x, x = (rdN 2 t5).2 := ⟨_, rfl⟩
        have HC := opn.num2_s (R + 1) t5 u5 HO.out.2.2.1
        rw [← hx4, ← ht6] at HC
        have HC := Lib.hid HC
        have HX4 : Hid (x4 = (rdN 2 t5).1 ∧ t6 = (rdN 2 t5).2) := Lib.hid ⟨hx4, ht6⟩
        clear hx4 ht6
        go_upto_region 15 with (go_at_call 58; (with_reducible refine HC.out.mono ?_); rintro e w6 ⟨rfl, hr4, ht4⟩; have h2 := HO.out.read hRS HWR.out ht4 (fun b hb => .inl hb) hr4; have HO4 := Lib.hid h2; have cc := (HdBlk.of h2.1 zcom).size; have ff := h2.1.frozen 5; clear h2 hr4 ht4)
        have HO : Hid (OfS w R S (⟨P, x0, x1, x2, x3, x4, zhd.commit⟩ : Hd) t6 (w6.setCell ⟨S, 5, none⟩ (.int .i64 x4)) v) := Lib.hid (HO4.out.put hRS HWR.out ((Turn.refl (· = S) w6).setCell rfl _) (hdm_size HO4.out.1 x4) rfl)
        obtain ⟨u6, hw4⟩ : ∃ u, u = w6.setCell ⟨S, 5, none⟩ (.int .i64 x4) := ⟨_, rfl⟩
        rw [← hw4] at HO
        refine wp_at hw4.symm ?_
        clear hw4 cc ff HO4 HC
        obtain ⟨y, hy⟩ : ∃ x, x = (rdI t6).1 := ⟨_, rfl⟩
        obtain ⟨t7, ht7⟩ : ∃ x, x = (rdI t6).2 := ⟨_, rfl⟩
        have hyl : y.length = 32 := by rw [hy]; exact opn.rdI_len _
        have HYL := Lib.hid hyl
        have HC := opn.id_s (fun b => b = R + 1 ∨ u6.heap.size ≤ b) (R + 1) t6 u6 HO.out.2.2.1 (.inl rfl) (fun b hb => .inr hb)
        rw [← hy, ← ht7] at HC
        have HC := Lib.hid HC
        have HX5 : Hid (y = (rdI t6).1 ∧ t7 = (rdI t6).2) := Lib.hid ⟨hy, ht7⟩
        clear hy ht7 hyl
        go_upto_region 16 with (first
          | (go_at_call 60; (with_reducible refine HC.out.mono ?_); rintro e w7 ⟨rfl, hr7, ht7⟩; have h2 := HO.out.read hRS HWR.out ht7 (fun b hb => hb) hr7; have HO7 := Lib.hid h2; have hrun := hdm_commit h2.1 zcom y HYL.out; have HRUN := Lib.hid hrun; clear h2 hr7 ht7 hrun)
          | ((with_reducible refine step_store_run (t := 23) (x := .tmp 50) (y := .tmp 49) (p := ?spid) (v := ?svid) (w' := ?swid) ?sgid ?soid ?sxid ?syid ?srid ?shid); (case sgid => rfl); (case soid => rfl); (case sxid => rfl); (case syid => rfl); (case srid => exact HRUN.out)))
        obtain ⟨o1, ho1⟩ : ∃ o, o = (⟨P, x0, x1, x2, x3, x4, y⟩ : Hd) := ⟨_, rfl⟩
        obtain ⟨wz, hwz⟩ : ∃ u, u = w7.setRow S (hdc (⟨P, x0, x1, x2, x3, x4, y⟩ : Hd) v).toArray := ⟨_, rfl⟩
        have HO : Hid (OfS w R S o1 t7 wz v) := Lib.hid (by rw [hwz, ho1]; exact HO7.out.put hRS HWR.out (turn_row w7 S _) (setRow_heap w7 S _ _ _ _ HO7.out.1) rfl)
        refine wp_at hwz.symm ?_
        have hrh : rdH (l, 0) = (o1, t7) := by
          rw [HRH.out, ho1, HX5.out.1, HX5.out.2, HX4.out.1, HX4.out.2, HX3.out.1, HX3.out.2, HX2.out.1, HX2.out.2, HX1.out.1, HX1.out.2, HX0.out.1, HX0.out.2]
          rfl
        have hrf : o1.commit.length = 32 := by rw [ho1]; exact HYL.out
        have hrl : o1.parents.length ≤ 255 := by rw [ho1]; exact HPL.out
        have htl : o1.topic.length ≤ 255 := by
          rw [ho1]
          show x1.length ≤ 255
          rw [HX1.out.1]
          exact rdT_len _
        have hof2 := HOF.out
        rw [hrh] at hof2
        simp only at hof2
        clear hwz ho1 hrh HX0 HX1 HX2 HX3 HX4 HX5 HRH HOF HO7 HRUN HC HYL HBX
        have hof := HO.out
        have HEND := Lib.hid (opn.end_s (R + 1) t7 wz hof.2.2.1)
        have hrd := (hof.2.1.rdv (by omega)).1
        have HCK := Lib.hid (check_any o1 v wz hrf hrd (by omega) (by omega))
        have HRD := Lib.hid hrd
        have HLD := Lib.hid (run_load_hd hof.1 hrf)
        have hrun := run_store_hd hof.2.2.2.1 (hdc_size _ _ zcom) zhd nv zcom nv_one
        have HRUN := Lib.hid hrun
        have hst2 := setRow_heap wz R _ (hdc zhd nv).toArray _ _ hof.2.2.2.1
        have HST2 := Lib.hid hst2
        have HOFF := Lib.hid hof
        have HRFF := Lib.hid hrf
        have HRL := Lib.hid hrl
        obtain ⟨en, hen⟩ : ∃ en, en = endE t7 := ⟨_, rfl⟩
        rw [← hen] at HEND hof2
        have HOF3 := Lib.hid hof2
        clear hof hrf hrl htl hof2 hrd hrun hst2 hen HO
        by_cases h0 : en = 0
        · subst h0
          obtain ⟨c, hc⟩ : ∃ c, c = checkH o1 := ⟨_, rfl⟩
          have HOF4 : Hid (ofH l = if c ≠ 0 then (zhd, c) else (o1, 0)) := Lib.hid (by rw [HOF3.out, hc]; rfl)
          rw [← hc] at HCK
          clear hc HOF3
          by_cases hc0 : c = 0
          · subst hc0
            have HE : Hid (ofH l = (o1, 0)) := Lib.hid (by rw [HOF4.out]; rfl)
            clear HOF4
            go_wp2_with (first
              | (go_at_call 61; with_reducible refine HEND.out.mono ?_; rintro e w8 ⟨rfl, rfl⟩)
              | ((with_reducible refine step_load (t := 46) (x := .tmp 5) (p := ?lpl91) (v := ?lvl91) ?lgl91 ?lol91 ?lxl91 ?lrl91 ?lhl91); (case lgl91 => rfl); (case lol91 => rfl); (case lxl91 => rfl); (case lrl91 => exact HLD.out))
              | (go_at_call 28; (with_reducible refine HCK.out.mono ?_); rintro e w9 ⟨rfl, hb6⟩; have hX6 := HOFF.out.2.2.2.1.below hb6 HOFF.out.2.2.2.1.lt; have hS6 := HOFF.out.1.below hb6 HOFF.out.1.lt; have hv1 : v.oneCell' = true := (by obtain ⟨ad, cap, hvf, -, -⟩ := HOFF.out.2.1.form; rw [hvf]; rfl); have hld6 := run_load_hd hS6 HRFF.out; have hrun6 := run_store_hd hX6 (hdc_size _ _ zcom) o1 v HRFF.out hv1; have hst6 := setRow_heap w9 R _ (hdc o1 v).toArray _ _ hX6)
              | ((with_reducible refine step_load (t := 46) (x := .tmp 5) (p := ?lpl97) (v := ?lvl97) ?lgl97 ?lol97 ?lxl97 ?lrl97 ?lhl97); (case lgl97 => rfl); (case lol97 => rfl); (case lxl97 => rfl); (case lrl97 => exact hld6))
              | ((with_reducible refine step_store_run (t := 46) (x := .tmp 2) (y := .tmp 61) (p := ?spt97) (v := ?svt97) (w' := ?swt97) ?sgt97 ?sot97 ?sxt97 ?syt97 ?srt97 ?sht97); (case sgt97 => rfl); (case sot97 => rfl); (case sxt97 => rfl); (case syt97 => rfl); (case srt97 => exact hrun6)))
            refine bodyPost_ret (results_hd rfl _ _ R _ o1 v rfl hst6 HRFF.out) rfl ⟨v, by rw [HE.out]; rfl, ?_, ?_⟩
            · rw [HE.out]
              have h1 := (HOFF.out.2.1.below hb6).turn (turn_row w9 R (hdc o1 v).toArray) fun b hb hbR => by
                have h2 : S < b := HOFF.out.2.1.2.2 b hb
                omega
              exact (h1.rdv (by have := HRL.out; omega)).1
            · exact below_row' (HOFF.out.2.2.2.2.trans (hb6.mono HOFF.out.2.2.2.2.size)) HWR.out _
          · have hc1 : (c == 0) = false := beq_eq_false_iff_ne.2 hc0
            have hc2 : (c != 0) = true := bne_iff_ne.2 hc0
            have HE : Hid (ofH l = (zhd, c)) := Lib.hid (by rw [HOF4.out, if_pos hc0])
            clear HOF4 hc0
            go_wp2_with (first
              | (go_at_call 61; with_reducible refine HEND.out.mono ?_; rintro e w8 ⟨rfl, rfl⟩)
              | ((with_reducible refine step_load (t := 46) (x := .tmp 5) (p := ?lpl92) (v := ?lvl92) ?lgl92 ?lol92 ?lxl92 ?lrl92 ?lhl92); (case lgl92 => rfl); (case lol92 => rfl); (case lxl92 => rfl); (case lrl92 => exact HLD.out))
              | (go_at_call 28; (with_reducible refine HCK.out.mono ?_); rintro e w9 ⟨rfl, hb6⟩; have hX6 := HOFF.out.2.2.2.1.below hb6 HOFF.out.2.2.2.1.lt; have hrun6 := run_store_hd hX6 (hdc_size _ _ zcom) zhd nv zcom nv_one; have hst2 := setRow_heap w9 R _ (hdc zhd nv).toArray _ _ hX6)
              | ((with_reducible refine step_build (t := 46) (parts := #[]) (ps := #[]) (v := ?bvz2) ?bgz2 ?boz2 ?bxz2 ?brz2 ?bhz2); (case bgz2 => rfl); (case boz2 => rfl); (case bxz2 => simp); (case brz2 => exact run_build_z _))
              | ((with_reducible refine step_store_run (t := 46) (x := .tmp 2) (y := .tmp 59) (p := ?spt2) (v := ?svt2) (w' := ?swt2) ?sgt2 ?sot2 ?sxt2 ?syt2 ?srt2 ?sht2); (case sgt2 => rfl); (case sot2 => rfl); (case sxt2 => rfl); (case syt2 => rfl); (case srt2 => exact hrun6)))
            refine bodyPost_ret (results_hd rfl _ _ R _ zhd nv rfl hst2 zcom) rfl ⟨nv, by rw [HE.out]; rfl, by rw [HE.out]; exact nv_rd _, below_row' (HOFF.out.2.2.2.2.trans (hb6.mono HOFF.out.2.2.2.2.size)) HWR.out _⟩
        · have hc1 : (en == 0) = false := beq_eq_false_iff_ne.2 h0
          have hc2 : (en != 0) = true := bne_iff_ne.2 h0
          have HE : Hid (ofH l = (zhd, en)) := Lib.hid (by rw [HOF3.out, if_pos h0])
          have hst2 := HST2.out
          clear HOF3 h0
          go_wp2_with (first
            | (go_at_call 61; with_reducible refine HEND.out.mono ?_; rintro e w8 ⟨rfl, rfl⟩)
            | ((with_reducible refine step_build (t := 46) (parts := #[]) (ps := #[]) (v := ?bvz3) ?bgz3 ?boz3 ?bxz3 ?brz3 ?bhz3); (case bgz3 => rfl); (case boz3 => rfl); (case bxz3 => simp); (case brz3 => exact run_build_z _))
            | ((with_reducible refine step_store_run (t := 46) (x := .tmp 2) (y := .tmp 59) (p := ?spt3) (v := ?svt3) (w' := ?swt3) ?sgt3 ?sot3 ?sxt3 ?syt3 ?srt3 ?sht3); (case sgt3 => rfl); (case sot3 => rfl); (case sxt3 => rfl); (case syt3 => rfl); (case srt3 => exact HRUN.out)))
          refine bodyPost_ret (results_hd rfl _ _ R _ zhd nv rfl hst2 zcom) rfl ⟨nv, by rw [HE.out]; rfl, by rw [HE.out]; exact nv_rd _, below_row' HOFF.out.2.2.2.2 HWR.out _⟩
end Go.Proofs.YtmaolmogccknbaaDoor.hdr
