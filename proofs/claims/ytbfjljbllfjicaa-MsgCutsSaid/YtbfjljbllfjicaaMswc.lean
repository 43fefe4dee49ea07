/-
  The walk of MsgCuts, by what msg's functions answer.
-/
import Derived.Test.YtbfjljbllfjicaaMscu
import Derived.Deep.RegionHeld3
namespace Go.Proofs.Ytbfjljbllfjicaa.msg
open Go.RowKit Go.Proofs.Ytbfjljbllfjicaa.mem Go.Proofs.Ytbfjljbllfjicaa.sha Go.Proofs.Ytbfjljbllfjicaa.ids
open Go.Proofs.Ytbfjljbllfjicaa.opn (b1 b2 b4 num txt idl byte rd rdN rdT rdI rdS rdL St Reads Stays endE zid mkId)

def CutIs (T : World → Prop) : Prop := ∀ (k : Int) (L : List (List UInt8)) (v : Value) (w : World), T w → RdV w v L → L.length ≤ 1000 → Calls Try.prog 16 #[.int .i64 k, v] w fun e w' => ∃ v', e = .returned v' ∧ MsV w' v' (cutM k L) ∧ Below w.heap.size w w'
/-- a message at a place of a list -/
def MgAt (w : World) (b o : Nat) (m : Mg) (u : Value) : Prop := b < w.heap.size ∧ RdV w u m.ids ∧ w.cell? ⟨b, o, none⟩ = some (.int .i64 m.k) ∧ w.cell? ⟨b, o + 1, none⟩ = some u ∧ w.cell? ⟨b, o + 2, none⟩ = some (.string (oct.tx m.body))
theorem MgAt.next {w w' : World} {b o : Nat} {m : Mg} {u : Value} (h : MgAt w b o m u) (hb : Below w.heap.size w w') : MgAt w' b o m u := by
  obtain ⟨h1, h2, h3, h4, h5⟩ := h
  have hc := fun i => World.cell?_of_block (w := w) (w' := w') (a := ⟨b, i, none⟩) (hb.block b h1)
  exact ⟨Nat.lt_of_lt_of_le h1 hb.size, h2.next hb, (hc _).trans h3, (hc _).trans h4, (hc _).trans h5⟩
theorem MgAt.load {w : World} {b o : Nat} {m : Mg} {u : Value} (h : MgAt w b o m u) : (Instr.loadAt 24 (.pointer (some ⟨b, o, none⟩))).run Try.prog w = .ok (mgv m u) w := run_load_mid_mg h.2.2.1 h.2.2.2.1 h.2.2.2.2
theorem MgAt.load_ids {w : World} {b o : Nat} {m : Mg} {u : Value} (h : MgAt w b o m u) : (Instr.loadAt 22 (.pointer (some ⟨b, o + 1, none⟩))).run Try.prog w = .ok u w := by
  obtain ⟨ad, cap, rfl⟩ := h.2.1.form
  have hc := h.2.2.2.1
  go_simp
theorem take_flat (ms : List Mg) (q : Nat) : ((ms.take q).map (·.ids)).flatten.length ≤ (ms.map (·.ids)).flatten.length := by
  have h : (ms.map (·.ids)).flatten = ((ms.take q).map (·.ids)).flatten ++ ((ms.drop q).map (·.ids)).flatten := by
    rw [← List.flatten_append, ← List.map_append, List.take_append_drop]
  rw [h, List.length_append]
  omega
theorem take_flat_succ {ms : List Mg} {q : Nat} {m : Mg} (h : ms[q]? = some m) : ((ms.take (q + 1)).map (·.ids)).flatten = ((ms.take q).map (·.ids)).flatten ++ m.ids := by
  obtain ⟨hq, hm⟩ := List.getElem?_eq_some_iff.1 h
  rw [List.take_succ_eq_append_getElem hq, hm]
  simp
structure CutsS (T : World → Prop) (w0 : World) (B b o b' o' : Nat) (m : Mg) (u u' : Value) (va : Value) (A : List (List UInt8)) (x : World) : Prop where
  t : T x
  l : MgAt x b o m u
  r : MgAt x b' o' m u'
  own : OwnI x (B ≤ ·) va A
  below : Below w0.heap.size w0 x
theorem CutsS.next {T : World → Prop} (hI : MsIs T) {w0 : World} {B b o b' o' : Nat} {m : Mg} {u u' va : Value} {A : List (List UInt8)} {x x' : World} (s : CutsS T w0 B b o b' o' m u u' va A x) (hb : Below x.heap.size x x') : CutsS T w0 B b o b' o' m u u' va A x' :=
  ⟨hI.next s.t hb, s.l.next hb, s.r.next hb, s.own.below hb, s.below.trans (hb.mono s.below.size)⟩
set_option maxHeartbeats 4000000 in
set_option maxRecDepth 100000 in
theorem cuts_walk {T : World → Prop} (hI : MsIs T) (hC : CutIs T) (k : Int) (L : List (List UInt8)) (v : Value) (w : World) (hT : T w) (hL : RdV w v L) :
    Calls Try.prog 6 #[.int .i64 k, v] w fun e w' => e = .returned (.bool true) ∧ Below w.heap.size w w' := by
  have HI := Lib.hid hI
  have HT := Lib.hid hT
  have HL := Lib.hid hL
  obtain ⟨ad, cap, rfl⟩ := hL.form
  by_cases hbig : 100 < L.length
  · have i1 : (100 : Int) < (L.length : Int) := by omega
    clear hbig hI hT hL hC
    go_enter Try.func6, Try.ntmps6
    go_wp2_with (go_at_call 7; refine (awake_any HI.out _ HT.out).mono ?_; rintro e w2 ⟨rfl, hb2⟩)
    go_ret
    exact ⟨rfl, hb2⟩
  have i1 : (L.length : Int) ≤ 100 := by omega
  have HC := Lib.hid (hC k L _ w hT hL (by omega))
  have HR := Lib.hid fun u (h : RdV u (.slice ad L.length cap) L) => cut_any k L ad L.length cap u h (by omega)
  have HALL := Lib.hid (fun h => cutM_all (k := k) hL.ok h)
  have HIS := Lib.hid (fun m h => cutM_is (k := k) hL.ok (m := m) h)
  obtain ⟨ms, hms⟩ : ∃ x, x = cutM k L := ⟨_, rfl⟩
  have hml : ms.length ≤ 100 := by
    rw [hms]
    unfold cutM
    split
    · exact Nat.le_trans (cutN_len k L _) (by omega)
    · exact Nat.zero_le _
  rw [← hms] at HC HALL
  simp only [← hms] at HR HIS
  have HLL : Hid (L.length ≤ 100) := Lib.hid (by omega)
  clear hbig hI hT hL hC hms
  go_enter Try.func6, Try.ntmps6
  go_upto_region 5 with (first
    | (go_at_call 16; (with_reducible refine HC.out.mono ?_); rintro e w2 ⟨v5, rfl, hm5, hb2⟩; have hl2 := HL.out.next hb2)
    | (go_at_call 17; (with_reducible refine (HR.out _ hl2).mono ?_); rintro e w3 ⟨v6, rfl, hm6, hb3⟩))
  have HM5 := Lib.hid (hm5.next hb3)
  have HM6 := Lib.hid hm6
  have hb := hb2.trans (hb3.mono hb2.size)
  have HB := Lib.hid hb
  have HT3 := Lib.hid (HI.out.next HT.out hb)
  have HL3 := Lib.hid (HL.out.next hb)
  obtain ⟨ad5, cap5, rfl⟩ := hm5.form
  obtain ⟨ad6, cap6, rfl⟩ := hm6.form
  obtain ⟨n, hn⟩ : ∃ n, n = ms.length := ⟨_, rfl⟩
  have HN := Lib.hid hn
  have nI : (n : Int) ≤ 100 := by omega
  rw [← hn] at HM5 HM6 ⊢
  clear hn hml hm5 hm6 hb2 hb3 hb hl2 HC HR HT HL
  go_upto_region 9 with fail
  go_loopw [7, 8] (fun va i wr => ∃ q : Nat, q ≤ n ∧ i = .int .i64 q ∧ OwnI wr (w3.heap.size ≤ ·) va ((ms.take q).map (·.ids)).flatten ∧ Below w3.heap.size w3 wr) (fun _ i _ => n - (intOf i).toNat)
  case atStart => exact ⟨0, Nat.zero_le _, rfl, OwnI.nil _ _, Below.refl _ _⟩
  case round =>
    obtain ⟨q, hq, rfl, hO, hbr⟩ := hrel
    have q0 : (0 : Int) ≤ (q : Int) := Int.natCast_nonneg _
    have HO := Lib.hid hO
    have HBR := Lib.hid hbr
    obtain ⟨A, hA⟩ : ∃ A, A = ((ms.take q).map (·.ids)).flatten := ⟨_, rfl⟩
    rw [← hA] at HO
    have HA := Lib.hid hA
    have hAl : A.length ≤ 100 := by
      rw [hA]
      by_cases h : ms = []
      · rw [h]; simp
      · have h1 := take_flat ms q
        rw [HALL.out h] at h1
        exact Nat.le_trans h1 HLL.out
    have HAL := Lib.hid hAl
    clear hO hA hAl
    by_cases hlt : q < n
    · have qI : (q : Int) < (n : Int) := by omega
      have hql : q < ms.length := by rw [← HN.out]; exact hlt
      obtain ⟨m, hm⟩ : ∃ m, ms[q]? = some m := ⟨_, List.getElem?_eq_getElem hql⟩
      obtain ⟨his1, his2, his3, his4⟩ := HIS.out m (List.mem_of_getElem? hm)
      have HCK := Lib.hid his1
      have HBL : Hid (m.body.length ≤ 140737488351232) := Lib.hid (by
        rcases check_two his1 with h | h
        · rw [h.2.2.2.1]; exact Nat.zero_le _
        · omega)
      obtain ⟨b, off, u, rfl, f1, f2, f3, f4, f5⟩ := (HM5.out.next hbr).at_ hql hm
      obtain ⟨b', off', u', rfl, g1, g2, g3, g4, g5⟩ := (HM6.out.next hbr).at_ hql hm
      obtain ⟨adu, cpu, rfl⟩ := f2.form
      obtain ⟨lu, hlu⟩ : ∃ z, z = m.ids.length := ⟨_, rfl⟩
      have hl0 : ((lu : Int) == 0) = false := beq_eq_false_iff_ne.2 (by omega)
      rw [← hlu] at f2 f4
      have H0 : Hid (CutsS T w3 w3.heap.size b (off + q * 3) b' (off' + q * 3) m (.slice adu lu cpu) u' u7 A wr) := Lib.hid ⟨HI.out.next HT3.out hbr, ⟨f1, f2, f3, f4, f5⟩, ⟨g1, g2, g3, g4, g5⟩, HO.out, hbr⟩
      have HQM := Lib.hid hm
      have HML : Hid (m.ids.length ≤ 16) := Lib.hid his3
      clear f1 f2 f3 f4 f5 g1 g2 g3 g4 g5 his1 his2 his3 his4 hlu hm hql hbr HM5 HM6 HO
      go_upto_region 11 with fail
      refine wp_region_held_drew (S := CutsS T w3 w3.heap.size b (off + q * 3) b' (off' + q * 3) m (.slice adu lu cpu) u' u7 A) (by kernel_rfl) ?_ (fun hHeld => ?_)
      · exact H0.out.next HI.out ((Below.refl _ _).drew)
      refine' wpAnyH_take (i := 0) ?hicw0 (by kernel_rfl) (by kernel_rfl) (by kernel_rfl) ?hqcw0 (Or.inl ⟨?hwcw0, ?hycw0⟩) (by assumption) ?hrcw0
      case hicw0 => (simp only [List.getElem?_toArray, List.getElem?_cons_succ, List.getElem?_cons_zero]; rfl)
      case hqcw0 => exact fun _ _ _ h => h
      case hwcw0 => rfl
      case hycw0 => (intro w0 hSw; (try dsimp only at hSw); go_simp; try with_reducible rfl)
      (try simp only [Act.put, List.setIfInBounds_toArray, List.set_cons_zero, List.set_cons_succ])
      refine' wpAnyH_take (i := 1) ?hicw1 (by kernel_rfl) (by kernel_rfl) (by kernel_rfl) ?hqcw1 (Or.inl ⟨?hwcw1, ?hycw1⟩) (by assumption) ?hrcw1
      case hicw1 => (simp only [List.getElem?_toArray, List.getElem?_cons_succ, List.getElem?_cons_zero]; rfl)
      case hqcw1 => exact fun _ _ _ h => h
      case hwcw1 => rfl
      case hycw1 => (intro w0 hSw; (try dsimp only at hSw); go_simp; try with_reducible rfl)
      (try simp only [Act.put, List.setIfInBounds_toArray, List.set_cons_zero, List.set_cons_succ])
      refine' wpAnyH_take (i := 2) ?hicw2 (by kernel_rfl) (by kernel_rfl) (by kernel_rfl) ?hqcw2 (Or.inl ⟨?hwcw2, ?hycw2⟩) (by assumption) ?hrcw2
      case hicw2 => (simp only [List.getElem?_toArray, List.getElem?_cons_succ, List.getElem?_cons_zero]; rfl)
      case hqcw2 => exact fun _ _ _ h => h
      case hwcw2 => rfl
      case hycw2 => (intro w0 hSw; (try dsimp only at hSw); go_simp; try with_reducible rfl)
      (try simp only [Act.put, List.setIfInBounds_toArray, List.set_cons_zero, List.set_cons_succ])
      refine' wpAnyH_take (i := 3) ?hicw3 (by kernel_rfl) (by kernel_rfl) (by kernel_rfl) ?hqcw3 (Or.inl ⟨?hwcw3, ?hycw3⟩) (by assumption) ?hrcw3
      case hicw3 => (simp only [List.getElem?_toArray, List.getElem?_cons_succ, List.getElem?_cons_zero]; rfl)
      case hqcw3 => exact fun _ _ _ h => h
      case hwcw3 => rfl
      case hycw3 => exact fun w0 hSw => run_exec_load rfl rfl (hSw.l.load)
      (try simp only [Act.put, List.setIfInBounds_toArray, List.set_cons_zero, List.set_cons_succ])
      refine' wpAnyH_take (i := 4) ?hicw4 (by kernel_rfl) (by kernel_rfl) (by kernel_rfl) ?hqcw4 (Or.inl ⟨?hwcw4, ?hycw4⟩) (by assumption) ?hrcw4
      case hicw4 => (simp only [List.getElem?_toArray, List.getElem?_cons_succ, List.getElem?_cons_zero]; rfl)
      case hqcw4 => exact fun _ _ _ h => h
      case hwcw4 => rfl
      case hycw4 => (intro w0 hSw; (try dsimp only at hSw); go_simp; try with_reducible rfl)
      (try simp only [Act.put, List.setIfInBounds_toArray, List.set_cons_zero, List.set_cons_succ])
      refine' wpAnyH_take (i := 5) ?hicw5 (by kernel_rfl) (by kernel_rfl) (by kernel_rfl) ?hqcw5 (Or.inl ⟨?hwcw5, ?hycw5⟩) (by assumption) ?hrcw5
      case hicw5 => (simp only [List.getElem?_toArray, List.getElem?_cons_succ, List.getElem?_cons_zero]; rfl)
      case hqcw5 => exact fun _ _ _ h => h
      case hwcw5 => rfl
      case hycw5 => (intro w0 hSw; (try dsimp only at hSw); go_simp; try with_reducible rfl)
      (try simp only [Act.put, List.setIfInBounds_toArray, List.set_cons_zero, List.set_cons_succ])
      refine' wpAnyH_take (i := 6) ?hicw6 (by kernel_rfl) (by kernel_rfl) (by kernel_rfl) ?hqcw6 (Or.inl ⟨?hwcw6, ?hycw6⟩) (by assumption) ?hrcw6
      case hicw6 => (simp only [List.getElem?_toArray, List.getElem?_cons_succ, List.getElem?_cons_zero]; rfl)
      case hqcw6 => exact fun _ _ _ h => h
      case hwcw6 => rfl
      case hycw6 => (intro w0 hSw; (try dsimp only at hSw); go_simp; try with_reducible rfl)
      (try simp only [Act.put, List.setIfInBounds_toArray, List.set_cons_zero, List.set_cons_succ])
      refine' wpAnyH_take (i := 7) ?hicw7 (by kernel_rfl) (by kernel_rfl) (by kernel_rfl) ?hqcw7 (Or.inl ⟨?hwcw7, ?hycw7⟩) (by assumption) ?hrcw7
      case hicw7 => (simp only [List.getElem?_toArray, List.getElem?_cons_succ, List.getElem?_cons_zero]; rfl)
      case hqcw7 => exact fun _ _ _ h => h
      case hwcw7 => rfl
      case hycw7 => exact fun w0 hSw => run_exec_load rfl rfl (hSw.r.load)
      (try simp only [Act.put, List.setIfInBounds_toArray, List.set_cons_zero, List.set_cons_succ])
      refine wpAnyH_ready (rs := [8]) (by kernel_rfl) (by simp) ?_
      refine' AllReadyH.cons ?hicw8 (fun K hK => ?hrcw8) AllReadyH.nil
      case hicw8 => (simp only [List.getElem?_toArray, List.getElem?_cons_succ, List.getElem?_cons_zero]; rfl)
      go_simp
      (refine (same_any m m _ _ _ hHeld.l.2.1 hHeld.r.2.1).mono ?_; rw [sameM_refl]; rintro e wx ⟨rfl, hbx⟩)
      refine hK.out _ _ ?_ (fun hHeld => ?_)
      · exact hHeld.next HI.out hbx
      clear hK K
      (try simp only [Act.put, List.setIfInBounds_toArray, List.set_cons_zero, List.set_cons_succ])
      refine' wpAnyH_take (i := 9) ?hicw9 (by kernel_rfl) (by kernel_rfl) (by kernel_rfl) ?hqcw9 (Or.inl ⟨?hwcw9, ?hycw9⟩) (by assumption) ?hrcw9
      case hicw9 => (simp only [List.getElem?_toArray, List.getElem?_cons_succ, List.getElem?_cons_zero]; rfl)
      case hqcw9 => exact fun _ _ _ h => h
      case hwcw9 => rfl
      case hycw9 => (intro w0 hSw; (try dsimp only at hSw); go_simp; try with_reducible rfl)
      (try simp only [Act.put, List.setIfInBounds_toArray, List.set_cons_zero, List.set_cons_succ])
      refine' wpAnyH_take (i := 10) ?hicw10 (by kernel_rfl) (by kernel_rfl) (by kernel_rfl) ?hqcw10 (Or.inl ⟨?hwcw10, ?hycw10⟩) (by assumption) ?hrcw10
      case hicw10 => (simp only [List.getElem?_toArray, List.getElem?_cons_succ, List.getElem?_cons_zero]; rfl)
      case hqcw10 => exact fun _ _ _ h => h
      case hwcw10 => rfl
      case hycw10 => (intro w0 hSw; (try dsimp only at hSw); go_simp; try with_reducible rfl)
      (try simp only [Act.put, List.setIfInBounds_toArray, List.set_cons_zero, List.set_cons_succ])
      refine' wpAnyH_take (i := 11) ?hicw11 (by kernel_rfl) (by kernel_rfl) (by kernel_rfl) ?hqcw11 (Or.inl ⟨?hwcw11, ?hycw11⟩) (by assumption) ?hrcw11
      case hicw11 => (simp only [List.getElem?_toArray, List.getElem?_cons_succ, List.getElem?_cons_zero]; rfl)
      case hqcw11 => exact fun _ _ _ h => h
      case hwcw11 => rfl
      case hycw11 => (intro w0 hSw; (try dsimp only at hSw); go_simp; try with_reducible rfl)
      (try simp only [Act.put, List.setIfInBounds_toArray, List.set_cons_zero, List.set_cons_succ])
      refine' wpAnyH_take (i := 12) ?hicw12 (by kernel_rfl) (by kernel_rfl) (by kernel_rfl) ?hqcw12 (Or.inl ⟨?hwcw12, ?hycw12⟩) (by assumption) ?hrcw12
      case hicw12 => (simp only [List.getElem?_toArray, List.getElem?_cons_succ, List.getElem?_cons_zero]; rfl)
      case hqcw12 => exact fun _ _ _ h => h
      case hwcw12 => rfl
      case hycw12 => (intro w0 hSw; (try dsimp only at hSw); go_simp; try with_reducible rfl)
      (try simp only [Act.put, List.setIfInBounds_toArray, List.set_cons_zero, List.set_cons_succ])
      refine' wpAnyH_take (i := 13) ?hicw13 (by kernel_rfl) (by kernel_rfl) (by kernel_rfl) ?hqcw13 (Or.inl ⟨?hwcw13, ?hycw13⟩) (by assumption) ?hrcw13
      case hicw13 => (simp only [List.getElem?_toArray, List.getElem?_cons_succ, List.getElem?_cons_zero]; rfl)
      case hqcw13 => exact fun _ _ _ h => h
      case hwcw13 => rfl
      case hycw13 => (intro w0 hSw; (try dsimp only at hSw); go_simp; try with_reducible rfl)
      (try simp only [Act.put, List.setIfInBounds_toArray, List.set_cons_zero, List.set_cons_succ])
      refine' wpAnyH_take (i := 14) ?hicw14 (by kernel_rfl) (by kernel_rfl) (by kernel_rfl) ?hqcw14 (Or.inl ⟨?hwcw14, ?hycw14⟩) (by assumption) ?hrcw14
      case hicw14 => (simp only [List.getElem?_toArray, List.getElem?_cons_succ, List.getElem?_cons_zero]; rfl)
      case hqcw14 => exact fun _ _ _ h => h
      case hwcw14 => rfl
      case hycw14 => exact fun w0 hSw => run_exec_load rfl rfl (hSw.l.load)
      (try simp only [Act.put, List.setIfInBounds_toArray, List.set_cons_zero, List.set_cons_succ])
      refine wpAnyH_ready (rs := [15]) (by kernel_rfl) (by simp) ?_
      refine' AllReadyH.cons ?hicw15 (fun K hK => ?hrcw15) AllReadyH.nil
      case hicw15 => (simp only [List.getElem?_toArray, List.getElem?_cons_succ, List.getElem?_cons_zero]; rfl)
      go_simp
      (refine (HI.out.check m _ _ hHeld.t hHeld.l.2.1 HBL.out).mono ?_; rw [HCK.out]; rintro e wx ⟨rfl, hbx⟩)
      refine hK.out _ _ ?_ (fun hHeld => ?_)
      · exact hHeld.next HI.out hbx
      clear hK K
      (try simp only [Act.put, List.setIfInBounds_toArray, List.set_cons_zero, List.set_cons_succ])
      refine' wpAnyH_take (i := 16) ?hicw16 (by kernel_rfl) (by kernel_rfl) (by kernel_rfl) ?hqcw16 (Or.inl ⟨?hwcw16, ?hycw16⟩) (by assumption) ?hrcw16
      case hicw16 => (simp only [List.getElem?_toArray, List.getElem?_cons_succ, List.getElem?_cons_zero]; rfl)
      case hqcw16 => exact fun _ _ _ h => h
      case hwcw16 => rfl
      case hycw16 => (intro w0 hSw; (try dsimp only at hSw); go_simp; try with_reducible rfl)
      (try simp only [Act.put, List.setIfInBounds_toArray, List.set_cons_zero, List.set_cons_succ])
      refine' wpAnyH_take (i := 17) ?hicw17 (by kernel_rfl) (by kernel_rfl) (by kernel_rfl) ?hqcw17 (Or.inl ⟨?hwcw17, ?hycw17⟩) (by assumption) ?hrcw17
      case hicw17 => (simp only [List.getElem?_toArray, List.getElem?_cons_succ, List.getElem?_cons_zero]; rfl)
      case hqcw17 => exact fun _ _ _ h => h
      case hwcw17 => rfl
      case hycw17 => (intro w0 hSw; (try dsimp only at hSw); go_simp; try with_reducible rfl)
      (try simp only [Act.put, List.setIfInBounds_toArray, List.set_cons_zero, List.set_cons_succ])
      refine' wpAnyH_take (i := 18) ?hicw18 (by kernel_rfl) (by kernel_rfl) (by kernel_rfl) ?hqcw18 (Or.inl ⟨?hwcw18, ?hycw18⟩) (by assumption) ?hrcw18
      case hicw18 => (simp only [List.getElem?_toArray, List.getElem?_cons_succ, List.getElem?_cons_zero]; rfl)
      case hqcw18 => exact fun _ _ _ h => h
      case hwcw18 => rfl
      case hycw18 => (intro w0 hSw; (try dsimp only at hSw); go_simp; try with_reducible rfl)
      (try simp only [Act.put, List.setIfInBounds_toArray, List.set_cons_zero, List.set_cons_succ])
      refine' wpAnyH_take (i := 19) ?hicw19 (by kernel_rfl) (by kernel_rfl) (by kernel_rfl) ?hqcw19 (Or.inl ⟨?hwcw19, ?hycw19⟩) (by assumption) ?hrcw19
      case hicw19 => (simp only [List.getElem?_toArray, List.getElem?_cons_succ, List.getElem?_cons_zero]; rfl)
      case hqcw19 => exact fun _ _ _ h => h
      case hwcw19 => rfl
      case hycw19 => (intro w0 hSw; (try dsimp only at hSw); go_simp; try with_reducible rfl)
      (try simp only [Act.put, List.setIfInBounds_toArray, List.set_cons_zero, List.set_cons_succ])
      refine' wpAnyH_take (i := 20) ?hicw20 (by kernel_rfl) (by kernel_rfl) (by kernel_rfl) ?hqcw20 (Or.inl ⟨?hwcw20, ?hycw20⟩) (by assumption) ?hrcw20
      case hicw20 => (simp only [List.getElem?_toArray, List.getElem?_cons_succ, List.getElem?_cons_zero]; rfl)
      case hqcw20 => exact fun _ _ _ h => h
      case hwcw20 => rfl
      case hycw20 => (intro w0 hSw; (try dsimp only at hSw); go_simp; try with_reducible rfl)
      (try simp only [Act.put, List.setIfInBounds_toArray, List.set_cons_zero, List.set_cons_succ])
      refine' wpAnyH_take (i := 21) ?hicw21 (by kernel_rfl) (by kernel_rfl) (by kernel_rfl) ?hqcw21 (Or.inl ⟨?hwcw21, ?hycw21⟩) (by assumption) ?hrcw21
      case hicw21 => (simp only [List.getElem?_toArray, List.getElem?_cons_succ, List.getElem?_cons_zero]; rfl)
      case hqcw21 => exact fun _ _ _ h => h
      case hwcw21 => rfl
      case hycw21 => (intro w0 hSw; (try dsimp only at hSw); go_simp; try with_reducible rfl)
      (try simp only [Act.put, List.setIfInBounds_toArray, List.set_cons_zero, List.set_cons_succ])
      refine' wpAnyH_take (i := 22) ?hicw22 (by kernel_rfl) (by kernel_rfl) (by kernel_rfl) ?hqcw22 (Or.inl ⟨?hwcw22, ?hycw22⟩) (by assumption) ?hrcw22
      case hicw22 => (simp only [List.getElem?_toArray, List.getElem?_cons_succ, List.getElem?_cons_zero]; rfl)
      case hqcw22 => exact fun _ _ _ h => h
      case hwcw22 => rfl
      case hycw22 => (intro w0 hSw; (try dsimp only at hSw); go_simp; try with_reducible rfl)
      (try simp only [Act.put, List.setIfInBounds_toArray, List.set_cons_zero, List.set_cons_succ])
      refine' wpAnyH_take (i := 23) ?hicw23 (by kernel_rfl) (by kernel_rfl) (by kernel_rfl) ?hqcw23 (Or.inl ⟨?hwcw23, ?hycw23⟩) (by assumption) ?hrcw23
      case hicw23 => (simp only [List.getElem?_toArray, List.getElem?_cons_succ, List.getElem?_cons_zero]; rfl)
      case hqcw23 => exact fun _ _ _ h => h
      case hwcw23 => rfl
      case hycw23 => exact fun w0 hSw => run_exec_load rfl rfl (hSw.l.load_ids)
      (try simp only [Act.put, List.setIfInBounds_toArray, List.set_cons_zero, List.set_cons_succ])
      refine' wpAnyH_take (i := 24) ?hicw24 (by kernel_rfl) (by kernel_rfl) (by kernel_rfl) ?hqcw24 (Or.inl ⟨?hwcw24, ?hycw24⟩) (by assumption) ?hrcw24
      case hicw24 => (simp only [List.getElem?_toArray, List.getElem?_cons_succ, List.getElem?_cons_zero]; rfl)
      case hqcw24 => exact fun _ _ _ h => h
      case hwcw24 => rfl
      case hycw24 => (intro w0 hSw; (try dsimp only at hSw); go_simp; try with_reducible rfl)
      (try simp only [Act.put, List.setIfInBounds_toArray, List.set_cons_zero, List.set_cons_succ])
      refine' wpAnyH_take (i := 25) ?hicw25 (by kernel_rfl) (by kernel_rfl) (by kernel_rfl) ?hqcw25 (Or.inl ⟨?hwcw25, ?hycw25⟩) (by assumption) ?hrcw25
      case hicw25 => (simp only [List.getElem?_toArray, List.getElem?_cons_succ, List.getElem?_cons_zero]; rfl)
      case hqcw25 => exact fun _ _ _ h => h
      case hwcw25 => rfl
      case hycw25 => (intro w0 hSw; (try dsimp only at hSw); go_simp; try with_reducible rfl)
      (try simp only [Act.put, List.setIfInBounds_toArray, List.set_cons_zero, List.set_cons_succ])
      refine' wpAnyH_take (i := 26) ?hicw26 (by kernel_rfl) (by kernel_rfl) (by kernel_rfl) ?hqcw26 (Or.inl ⟨?hwcw26, ?hycw26⟩) (by assumption) ?hrcw26
      case hicw26 => (simp only [List.getElem?_toArray, List.getElem?_cons_succ, List.getElem?_cons_zero]; rfl)
      case hqcw26 => exact fun _ _ _ h => h
      case hwcw26 => rfl
      case hycw26 => (intro w0 hSw; (try dsimp only at hSw); go_simp; try with_reducible rfl)
      (try simp only [Act.put, List.setIfInBounds_toArray, List.set_cons_zero, List.set_cons_succ])
      refine wpAnyH_done (by kernel_rfl) ?_ _
      obtain ⟨v2, wv, hrun, ho2, ht2⟩ := run_append_rd hHeld.own hHeld.l.2.1 (by have h1 := HAL.out; have h2 := HML.out; omega) (fun j hj => Nat.le_trans hHeld.below.size hj) 22
      have c1 := hHeld.l.2.2.2.1
      have hbv := hHeld.below.trans (ht2.below fun j hj => hj.elim (hHeld.own.2.2 j) fun h => Nat.le_trans hHeld.below.size h)
      have HO2 := Lib.hid (ho2.mono (G := (w3.heap.size ≤ ·)) fun j hj => hj)
      have HBV := Lib.hid hbv
      clear ho2 ht2 hbv hHeld
      go_wp2_with (((with_reducible refine step_append (s := .tmp 63) (x := .tmp 68) (t := 22) (vs := ?asap) (vx := ?axap) (v' := ?avap) (w' := ?awap) ?agap ?aoap ?apap ?aqap ?arap ?ahap); (case agap => rfl); (case aoap => rfl); (case apap => rfl); (case aqap => rfl); (case arap => exact hrun)))
      go_roundw
      case rel => exact ⟨q + 1, hlt, by push_cast; rfl, by rw [take_flat_succ HQM.out, ← HA.out]; exact HO2.out, HBV.out⟩
      case measure => simp [intOf]; omega
    · obtain rfl : q = n := by omega
      have hAF : A = (ms.map (·.ids)).flatten := by rw [HA.out, HN.out, List.take_length]
      by_cases h0 : ms = []
      · have e0 : ((q : Int) == 0) = true := by
          have : q = 0 := by rw [HN.out, h0]; rfl
          rw [this]; rfl
        have HT4 := Lib.hid (HI.out.next HT3.out hbr)
        clear h0 hAF hbr HM5 HM6
        go_wp2_with (go_at_call 7; refine (awake_any HI.out _ HT4.out).mono ?_; rintro e w2 ⟨rfl, hb2⟩)
        go_ret
        exact ⟨rfl, HB.out.trans ((HBR.out.trans (hb2.mono HBR.out.size)).mono HB.out.size)⟩
      · have e0 : ((q : Int) == 0) = false := beq_eq_false_iff_ne.2 (by
          intro h
          exact h0 (List.eq_nil_of_length_eq_zero (by rw [← HN.out]; omega)))
        have hAL : A = L := by rw [hAF]; exact HALL.out h0
        have hrd := (HO.out.rdv (by have := HAL.out; omega)).1
        rw [hAL] at hrd
        obtain ⟨ada, cpa, rfl⟩ := hrd.form
        have hsm : Calls Try.prog 13 #[.agg #[.int .i64 0, .slice ada L.length cpa, .string ⟨#[]⟩], .agg #[.int .i64 0, .slice ad L.length cap, .string ⟨#[]⟩]] wr fun e w' => e = .returned (.bool (sameM ⟨0, L, []⟩ ⟨0, L, []⟩)) ∧ Below wr.heap.size wr w' :=
          same_any ⟨0, L, []⟩ ⟨0, L, []⟩ _ _ wr hrd (HL3.out.next hbr)
        rw [sameM_refl] at hsm
        have HSM := Lib.hid hsm
        clear h0 hAF hAL hrd hsm hbr HM5 HM6 HO HA
        go_wp2_with (first
          | (go_at_call 13; (with_reducible refine HSM.out.mono ?_); rintro e w4 ⟨rfl, hb4⟩; have hb5 := HBR.out.trans (hb4.mono HBR.out.size))
          | (go_at_call 7; refine (awake_any HI.out _ (HI.out.next HT3.out hb5)).mono ?_; rintro e w2 ⟨rfl, hb2⟩))
        go_ret
        exact ⟨rfl, HB.out.trans ((hb5.trans (hb2.mono hb5.size)).mono HB.out.size)⟩
end Go.Proofs.Ytbfjljbllfjicaa.msg
