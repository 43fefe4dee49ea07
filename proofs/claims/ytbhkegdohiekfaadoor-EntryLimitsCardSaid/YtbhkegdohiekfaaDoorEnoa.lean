/-
  petrelref14.Of: nothing, no kind.
-/
import Derived.Test.YtbhkegdohiekfaaDoorEnof
namespace Go.Proofs.YtbhkegdohiekfaaDoor.ent
open Go.RowKit Go.Proofs.YtbhkegdohiekfaaDoor.mem Go.Proofs.YtbhkegdohiekfaaDoor.sha Go.Proofs.YtbhkegdohiekfaaDoor.ids
open Go.Proofs.YtbhkegdohiekfaaDoor.opn (b1 b2 b4 num txt idl byte rd rdN rdT rdI rdS rdL St Reads Stays endE zid mkId RdrS)
open Go.Proofs.YtbhkegdohiekfaaDoor.topic (kindOf)

set_option maxHeartbeats 8000000 in
set_option maxRecDepth 100000 in
theorem of_a (s : ByteArray) (w : World) (hs : s.size ≤ 1000000) (k : Int) (st : St) (hk : k = (rdN 1 (s.data.toList, 0)).1) (hst : st = (rdN 1 (s.data.toList, 0)).2) (h0 : st.2 ≠ 0) :
    Calls Tryd.prog 13 #[.string s] w fun x w' => OfOut s.data.toList w x w' := by
  obtain ⟨R, hR⟩ : ∃ S, S = w.heap.size := ⟨_, rfl⟩
  obtain ⟨w1, hw1⟩ : ∃ u, u = (w.alloc (.cells (enc zen).toArray 25)).alloc (.cells #[.string s, .int .i64 0] 72) := ⟨_, rfl⟩
  have hX : Blk w1 R 25 (enc zen).toArray := by rw [hw1, hR]; exact (Blk.new w _ _).alloc _
  have hG : RdrS w1 (R + 1) (s.data.toList, 0) := ⟨s, 0, by rw [hw1, hR]; exact Blk.at_ (by simp) _ _, rfl, fun _ => (oct.tx_eta s).symm⟩
  have hB : Below w.heap.size w w1 := by rw [hw1]; exact ((Below.refl _ _).alloc (Nat.le_refl _) _).alloc (by simp) _
  have hsz : w1.heap.size = R + 2 := by rw [hw1, hR]; simp
  obtain ⟨l, hl⟩ : ∃ l, l = s.data.toList := ⟨_, rfl⟩
  have hll : l.length ≤ 1000000 := by rw [hl, Array.length_toList]; exact hs
  rw [← hl] at hG hk hst ⊢
  have HNUM := opn.num1_s (R + 1) (l, 0) w1 hG
  rw [← hst, ← hk] at HNUM
  have HOF := Lib.hid (ofE_eq l k st hk hst)
  have hstl : st.1.length ≤ 1000000 := by
    rw [hst]
    have : (rdN 1 (l, 0)).2.1.length ≤ l.length := rd_left 1 (l, 0)
    omega
  have HSTL := Lib.hid hstl
  have HX := Lib.hid hX
  have HB := Lib.hid hB
  have HW := Lib.hid hw1
  have HR := Lib.hid hR
  have HSZ := Lib.hid hsz
  have HNUM := Lib.hid HNUM
  clear hX hG hB hw1 hR hsz hl hst hk hs hll hstl
  have HE : Hid (ofE l = (zen, st.2)) := Lib.hid (by rw [HOF.out, if_pos h0])
  obtain ⟨er, her⟩ : ∃ x, x = st.2 := ⟨_, rfl⟩
  have hne : (er != 0) = true := by rw [her]; exact bne_iff_ne.2 h0
  rw [← her] at HE
  have HER := Lib.hid her
  clear h0 her
  go_enter Tryd.func13, Tryd.ntmps13
  go_upto_region 2 with fail
  refine wp_at HW.out.symm ?_
  rw [← HR.out]
  clear HW
  go_upto_region 4 with (first
    | (go_at_call 37; (with_reducible refine HNUM.out.mono ?_); rintro x w2 ⟨rfl, hr2, ht2⟩; obtain ⟨w3, hw3⟩ : ∃ u, u = (w2.alloc (.cells (enc zen).toArray 25)).setRow w2.heap.size (enc (ken k)).toArray := ⟨_, rfl⟩; have HST3 := Lib.hid (held_en w2 (ken k) (ken_commit k)); rw [← hw3] at HST3; have HP3 : Hid (OfP w R w2.heap.size (ken k) st w3) := Lib.hid (by have a1 := HR.out; have a2 := HSZ.out; have a3 := ht2.size; have a4 := hr2.lt; have hX2 := HX.out.turn ht2 (by omega); have hbb : Below w2.heap.size w2 w3 := (by rw [hw3]; exact below_row' ((Below.refl _ _).alloc (Nat.le_refl _) _) (Nat.le_refl _) _); exact ⟨by rw [hw3]; exact setRow_heap _ _ _ _ _ _ (Blk.new w2 _ _), hr2.turn (Turn.fresh (F := fun b => w2.heap.size ≤ b) hbb (fun b hb => hb)) (by have := hr2.lt; omega), hX2.below hbb hX2.lt, (HB.out.trans (ht2.below fun b hb => by omega)).trans (hbb.mono (by omega)), by omega, by omega, ken_commit k⟩); have ce := HP3.out.rdr.err; rw [← HER.out] at ce; have HRUN := Lib.hid HP3.out.zero; clear hr2 ht2 hw3)
    | ((with_reducible refine step_build (t := 25) (parts := #[(0, .tmp 12)]) (ps := ?bpu1) (v := ?bvu1) ?bgu1 ?bou1 ?bxu1 ?bru1 ?bhu1); (case bgu1 => rfl); (case bou1 => rfl); (case bxu1 => rfl); (case bru1 => exact run_build_k _ k))
    | ((with_reducible refine step_store_run (t := 25) (x := .tmp 5) (y := .tmp 13) (p := ?spu2) (v := ?svu2) (w' := ?swu2) ?sgu2 ?sou2 ?sxu2 ?syu2 ?sru2 ?shu2); (case sgu2 => rfl); (case sou2 => rfl); (case sxu2 => rfl); (case syu2 => rfl); (case sru2 => exact HST3.out)))
  have HRUN4 : Hid ((Instr.storeAt 25 (.pointer (some ⟨R, 0, none⟩)) (env zen)).run Tryd.prog w3.drew = .ok () (w3.drew.setRow R (enc zen).toArray)) := Lib.hid (run_store_en (show Blk w3.drew R 25 (enc zen).toArray from HP3.out.res) (enc_size _ zlen) zen zlen)
  have ce4 : (w3.drew.setRow R (enc zen).toArray).cell? ⟨R + 1, 1, none⟩ = some (.int .i64 er) := by
    have hh := (show RdrS w3.drew (R + 1) st from HP3.out.rdr).turn (turn_row w3.drew R (enc zen).toArray) (by omega)
    have := hh.err
    rw [← HER.out] at this
    exact this
  refine wp_region_any (by kernel_rfl) ?_
  refine' wpAny_take (i := 0) ?hizz1 (by kernel_rfl) (by kernel_rfl) (by kernel_rfl) ?hqzz1 (Or.inl ⟨?hwzz1, ?hyzz1⟩) ?hrzz1
  case hizz1 => (simp only [List.getElem?_toArray, List.getElem?_cons_succ, List.getElem?_cons_zero]; rfl)
  case hqzz1 => exact fun _ _ _ h => h
  case hwzz1 => rfl
  case hyzz1 => (intro w0; exact exec_build rfl (by simp) (run_build_z w0))
  (try simp only [Act.put, List.setIfInBounds_toArray, List.set_cons_zero, List.set_cons_succ])
  refine' wpAny_take (i := 1) ?hizz2 (by kernel_rfl) (by kernel_rfl) (by kernel_rfl) ?hqzz2 (Or.inl ⟨?hwzz2, ?hyzz2⟩) ?hrzz2
  case hizz2 => (simp only [List.getElem?_toArray, List.getElem?_cons_succ, List.getElem?_cons_zero]; rfl)
  case hqzz2 => exact fun _ _ _ h => h
  case hwzz2 => rfl
  case hyzz2 => (intro w0; go_simp; try with_reducible rfl)
  (try simp only [Act.put, List.setIfInBounds_toArray, List.set_cons_zero, List.set_cons_succ])
  refine' wpAny_take (i := 2) ?hizz3 (by kernel_rfl) (by kernel_rfl) (by kernel_rfl) ?hqzz3 (Or.inl ⟨?hwzz3, ?hyzz3⟩) ?hrzz3
  case hizz3 => (simp only [List.getElem?_toArray, List.getElem?_cons_succ, List.getElem?_cons_zero]; rfl)
  case hqzz3 => exact fun _ _ _ h => h
  case hwzz3 => rfl
  case hyzz3 => (intro w0; go_simp; try with_reducible rfl)
  (try simp only [Act.put, List.setIfInBounds_toArray, List.set_cons_zero, List.set_cons_succ])
  refine' wpAny_take (i := 3) ?hizz4 (by kernel_rfl) (by kernel_rfl) (by kernel_rfl) ?hqzz4 (Or.inl ⟨?hwzz4, ?hyzz4⟩) ?hrzz4
  case hizz4 => (simp only [List.getElem?_toArray, List.getElem?_cons_succ, List.getElem?_cons_zero]; rfl)
  case hqzz4 => exact fun _ _ _ h => h
  case hwzz4 => rfl
  case hyzz4 => (intro w0; go_simp; try with_reducible rfl)
  (try simp only [Act.put, List.setIfInBounds_toArray, List.set_cons_zero, List.set_cons_succ])
  refine wpAny_ready (rs := [4, 5]) (by kernel_rfl) (by simp) ?_
  refine' AllReady.cons ?hazz9 (fun K hK => ?hczz9) (AllReady.cons ?hbzz9 (fun K hK => ?hdzz9) AllReady.nil)
  case hazz9 => (simp only [List.getElem?_toArray, List.getElem?_cons_succ, List.getElem?_cons_zero]; rfl)
  case hbzz9 => (simp only [List.getElem?_toArray, List.getElem?_cons_succ, List.getElem?_cons_zero]; rfl)
  case hczz9 =>
    go_simp
    refine hK _ _ ?_
    clear hK K
    (try simp only [Act.put, List.setIfInBounds_toArray, List.set_cons_zero, List.set_cons_succ])
    refine wpAny_ready (rs := [5]) (by kernel_rfl) (by simp) ?_
    refine' AllReady.cons ?hizz5 (fun K hK => ?hrzz5) AllReady.nil
    case hizz5 => (simp only [List.getElem?_toArray, List.getElem?_cons_succ, List.getElem?_cons_zero]; rfl)
    refine want_store_run rfl rfl rfl rfl HRUN4.out (hK _ _ ?_)
    clear hK K
    (try simp only [Act.put, List.setIfInBounds_toArray, List.set_cons_zero, List.set_cons_succ])
    refine' wpAny_take (i := 6) ?hizz6 (by kernel_rfl) (by kernel_rfl) (by kernel_rfl) ?hqzz6 (Or.inl ⟨?hwzz6, ?hyzz6⟩) ?hrzz6
    case hizz6 => (simp only [List.getElem?_toArray, List.getElem?_cons_succ, List.getElem?_cons_zero]; rfl)
    case hqzz6 => exact fun _ _ _ h => h
    case hwzz6 => rfl
    case hyzz6 => (intro w0; go_simp; try with_reducible rfl)
    (try simp only [Act.put, List.setIfInBounds_toArray, List.set_cons_zero, List.set_cons_succ])
    refine wpAny_done (by kernel_rfl) ?_ _
    go_wp2_with fail
    refine bodyPost_ret (results_en rfl _ _ R _ zen rfl (setRow_heap _ _ _ _ _ _ HP3.out.res) zlen) rfl ⟨by rw [HE.out]; rfl, below_row' HP3.out.below.drew (by rw [HR.out]; exact Nat.le_refl _) _⟩
  case hdzz9 =>
    refine want_store_run rfl rfl rfl rfl HRUN4.out (hK _ _ ?_)
    clear hK K
    (try simp only [Act.put, List.setIfInBounds_toArray, List.set_cons_zero, List.set_cons_succ])
    refine wpAny_ready (rs := [4]) (by kernel_rfl) (by simp) ?_
    refine' AllReady.cons ?hizz7 (fun K hK => ?hrzz7) AllReady.nil
    case hizz7 => (simp only [List.getElem?_toArray, List.getElem?_cons_succ, List.getElem?_cons_zero]; rfl)
    go_simp
    refine hK _ _ ?_
    clear hK K
    (try simp only [Act.put, List.setIfInBounds_toArray, List.set_cons_zero, List.set_cons_succ])
    refine' wpAny_take (i := 6) ?hizz8 (by kernel_rfl) (by kernel_rfl) (by kernel_rfl) ?hqzz8 (Or.inl ⟨?hwzz8, ?hyzz8⟩) ?hrzz8
    case hizz8 => (simp only [List.getElem?_toArray, List.getElem?_cons_succ, List.getElem?_cons_zero]; rfl)
    case hqzz8 => exact fun _ _ _ h => h
    case hwzz8 => rfl
    case hyzz8 => (intro w0; go_simp; try with_reducible rfl)
    (try simp only [Act.put, List.setIfInBounds_toArray, List.set_cons_zero, List.set_cons_succ])
    refine wpAny_done (by kernel_rfl) ?_ _
    go_wp2_with fail
    refine bodyPost_ret (results_en rfl _ _ R _ zen rfl (setRow_heap _ _ _ _ _ _ HP3.out.res) zlen) rfl ⟨by rw [HE.out]; rfl, below_row' HP3.out.below.drew (by rw [HR.out]; exact Nat.le_refl _) _⟩

set_option maxHeartbeats 8000000 in
set_option maxRecDepth 100000 in
theorem of_b (s : ByteArray) (w : World) (hs : s.size ≤ 1000000) (k : Int) (st : St) (hk : k = (rdN 1 (s.data.toList, 0)).1) (hst : st = (rdN 1 (s.data.toList, 0)).2) (h0 : st.2 = 0) (hkk : kindE k = 0) :
    Calls Tryd.prog 13 #[.string s] w fun x w' => OfOut s.data.toList w x w' := by
  obtain ⟨R, hR⟩ : ∃ S, S = w.heap.size := ⟨_, rfl⟩
  obtain ⟨w1, hw1⟩ : ∃ u, u = (w.alloc (.cells (enc zen).toArray 25)).alloc (.cells #[.string s, .int .i64 0] 72) := ⟨_, rfl⟩
  have hX : Blk w1 R 25 (enc zen).toArray := by rw [hw1, hR]; exact (Blk.new w _ _).alloc _
  have hG : RdrS w1 (R + 1) (s.data.toList, 0) := ⟨s, 0, by rw [hw1, hR]; exact Blk.at_ (by simp) _ _, rfl, fun _ => (oct.tx_eta s).symm⟩
  have hB : Below w.heap.size w w1 := by rw [hw1]; exact ((Below.refl _ _).alloc (Nat.le_refl _) _).alloc (by simp) _
  have hsz : w1.heap.size = R + 2 := by rw [hw1, hR]; simp
  obtain ⟨l, hl⟩ : ∃ l, l = s.data.toList := ⟨_, rfl⟩
  have hll : l.length ≤ 1000000 := by rw [hl, Array.length_toList]; exact hs
  rw [← hl] at hG hk hst ⊢
  have HNUM := opn.num1_s (R + 1) (l, 0) w1 hG
  rw [← hst, ← hk] at HNUM
  have HOF := Lib.hid (ofE_eq l k st hk hst)
  have hstl : st.1.length ≤ 1000000 := by
    rw [hst]
    have : (rdN 1 (l, 0)).2.1.length ≤ l.length := rd_left 1 (l, 0)
    omega
  have HSTL := Lib.hid hstl
  have HX := Lib.hid hX
  have HB := Lib.hid hB
  have HW := Lib.hid hw1
  have HR := Lib.hid hR
  have HSZ := Lib.hid hsz
  have HNUM := Lib.hid HNUM
  clear hX hG hB hw1 hR hsz hl hst hk hs hll hstl
  have HE : Hid (ofE l = (zen, 10)) := Lib.hid (by rw [HOF.out, if_neg (fun h => h h0), if_pos hkk])
  obtain ⟨p, hp⟩ : ∃ p, p = hasB k := ⟨_, rfl⟩
  have hhas := fun u => has_any k u
  rw [← hp] at hhas
  have HHAS := Lib.hid hhas
  have pE : p.toList.isEmpty = true := by rw [hp]; unfold hasB hasL; rw [hkk]; decide +kernel
  have H0 := Lib.hid h0
  clear h0 hkk hp hhas
  go_enter Tryd.func13, Tryd.ntmps13
  go_upto_region 2 with fail
  refine wp_at HW.out.symm ?_
  rw [← HR.out]
  clear HW
  go_wp2_with (first
    | (go_at_call 37; (with_reducible refine HNUM.out.mono ?_); rintro x w2 ⟨rfl, hr2, ht2⟩; obtain ⟨w3, hw3⟩ : ∃ u, u = (w2.alloc (.cells (enc zen).toArray 25)).setRow w2.heap.size (enc (ken k)).toArray := ⟨_, rfl⟩; have HST3 := Lib.hid (held_en w2 (ken k) (ken_commit k)); rw [← hw3] at HST3; have HP3 : Hid (OfP w R w2.heap.size (ken k) st w3) := Lib.hid (by have a1 := HR.out; have a2 := HSZ.out; have a3 := ht2.size; have a4 := hr2.lt; have hX2 := HX.out.turn ht2 (by omega); have hbb : Below w2.heap.size w2 w3 := (by rw [hw3]; exact below_row' ((Below.refl _ _).alloc (Nat.le_refl _) _) (Nat.le_refl _) _); exact ⟨by rw [hw3]; exact setRow_heap _ _ _ _ _ _ (Blk.new w2 _ _), hr2.turn (Turn.fresh (F := fun b => w2.heap.size ≤ b) hbb (fun b hb => hb)) (by have := hr2.lt; omega), hX2.below hbb hX2.lt, (HB.out.trans (ht2.below fun b hb => by omega)).trans (hbb.mono (by omega)), by omega, by omega, ken_commit k⟩); have ce := HP3.out.rdr.err; rw [H0.out] at ce; have c0 : w3.cell? ⟨w2.heap.size, 0, none⟩ = some (.int .i64 k) := (EnBlk.of HP3.out.op HP3.out.ref).k; have HRUN := Lib.hid HP3.out.zero; clear hr2 ht2 hw3)
    | ((with_reducible refine step_build (t := 25) (parts := #[(0, .tmp 12)]) (ps := ?bpu3) (v := ?bvu3) ?bgu3 ?bou3 ?bxu3 ?bru3 ?bhu3); (case bgu3 => rfl); (case bou3 => rfl); (case bxu3 => rfl); (case bru3 => exact run_build_k _ k))
    | ((with_reducible refine step_store_run (t := 25) (x := .tmp 5) (y := .tmp 13) (p := ?spu4) (v := ?svu4) (w' := ?swu4) ?sgu4 ?sou4 ?sxu4 ?syu4 ?sru4 ?shu4); (case sgu4 => rfl); (case sou4 => rfl); (case sxu4 => rfl); (case syu4 => rfl); (case sru4 => exact HST3.out))
    | (go_at_call 25; (with_reducible refine (HHAS.out _).mono ?_); rintro x w4 ⟨rfl, rfl⟩)
    | ((with_reducible refine step_build (t := 25) (parts := #[]) (ps := #[]) (v := ?bvu5) ?bgu5 ?bou5 ?bxu5 ?bru5 ?bhu5); (case bgu5 => rfl); (case bou5 => rfl); (case bxu5 => simp); (case bru5 => exact run_build_z _))
    | ((with_reducible refine step_store_run (t := 25) (x := .tmp 2) (y := .tmp 29) (p := ?spu6) (v := ?svu6) (w' := ?swu6) ?sgu6 ?sou6 ?sxu6 ?syu6 ?sru6 ?shu6); (case sgu6 => rfl); (case sou6 => rfl); (case sxu6 => rfl); (case syu6 => rfl); (case sru6 => exact HRUN.out)))
  refine bodyPost_ret (results_en rfl _ _ R _ zen rfl (setRow_heap _ _ _ _ _ _ HP3.out.res) zlen) rfl ⟨by rw [HE.out]; rfl, below_row' HP3.out.below (by rw [HR.out]; exact Nat.le_refl _) _⟩
end Go.Proofs.YtbhkegdohiekfaaDoor.ent
