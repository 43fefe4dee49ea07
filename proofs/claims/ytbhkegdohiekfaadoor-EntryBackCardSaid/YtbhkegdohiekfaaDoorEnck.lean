/-
  petrelref14.Check.
-/
import Derived.Test.YtbhkegdohiekfaaDoorStrx
import Derived.Test.YtbhkegdohiekfaaDoorTopk
namespace Go.Proofs.YtbhkegdohiekfaaDoor.ent
open Go.RowKit Go.Proofs.YtbhkegdohiekfaaDoor.mem Go.Proofs.YtbhkegdohiekfaaDoor.sha Go.Proofs.YtbhkegdohiekfaaDoor.ids
open Go.Proofs.YtbhkegdohiekfaaDoor.opn (b1 b2 b4 num txt idl byte rd rdN rdT rdI rdS rdL St Reads Stays endE zid mkId)
open Go.Proofs.YtbhkegdohiekfaaDoor.topic (kindOf)

theorem tx_emp (l : List UInt8) : (oct.tx l).toList.isEmpty = l.isEmpty := by rw [ByteArray.toList_eq, oct.tx_list]
theorem has_size (k : Int) : (hasB k).size = (hasL k).length := rfl
set_option maxHeartbeats 8000000 in
set_option maxRecDepth 100000 in
theorem check_any (e : En) (w : World) (hr : e.commit.length = 32) (ht : e.topic.length ≤ 549755813888000) (hb : e.body.length ≤ 140737488351232) :
    Calls Tryd.prog 11 #[env e] w fun x w' => x = .returned (.int .i64 (checkE e)) ∧ Below w.heap.size w w' := by
  obtain ⟨w1, hw1⟩ : ∃ u, u = w.alloc (.cells (enc e).toArray 25) := ⟨_, rfl⟩
  obtain ⟨S, hS⟩ : ∃ S, S = w.heap.size := ⟨_, rfl⟩
  have hX : Blk w1 S 25 (enc e).toArray := by rw [hw1, hS]; exact Blk.new w _ _
  have hB : Below w.heap.size w w1 := by rw [hw1]; exact (Below.refl _ _).alloc (Nat.le_refl _) _
  have HC := EnBlk.of hX hr
  have HB := Lib.hid hB
  have HS := Lib.hid hS
  have HW := Lib.hid hw1
  have HX := Lib.hid HC
  obtain ⟨k, hk⟩ : ∃ k, k = e.k := ⟨_, rfl⟩
  obtain ⟨ts, hts⟩ : ∃ b, b = oct.tx e.topic := ⟨_, rfl⟩
  obtain ⟨bs, hbs⟩ : ∃ b, b = oct.tx e.body := ⟨_, rfl⟩
  have c0 := HC.k
  have c1 := HC.topic
  have c2 := HC.body
  have hl := HC.commit 0
  rw [← hk] at c0
  rw [← hts] at c1
  rw [← hbs] at c2
  have HTE : Hid (ts.toList.isEmpty = e.topic.isEmpty) := Lib.hid (by rw [hts, tx_emp])
  have HBE : Hid (bs.toList.isEmpty = e.body.isEmpty) := Lib.hid (by rw [hbs, tx_emp])
  have HBS : Hid (bs.size = e.body.length) := Lib.hid (by rw [hbs, oct.tx_size])
  have HKI := Lib.hid (fun u => topic.rkind_any ts u (by rw [hts, oct.tx_size]; exact ht))
  have HKT : Hid (kindOf ts.data.toList = kindOf e.topic) := Lib.hid (by rw [hts, oct.tx_list])
  have hbz : (bs.size : Int) ≤ 140737488351232 := by rw [HBS.out]; omega
  have HID : Hid (∀ u, (binOp .neq 23 (idv e.commit) (idv zid)).run Tryd.prog u = .ok (.bool (e.commit != zid)) u) := Lib.hid fun u => neq_ids u _ _ hr zlen
  have HGD : Hid (∀ u, (eqGuard .neq 23 (.tmp 23) (.tmp 24) (idv e.commit) (idv zid)).run Tryd.prog u = .ok () u) := Lib.hid fun u => run_eqGuard_agg u .neq 23 (.tmp 23) (.tmp 24) _ _ Tryd.eqGuardType23
  have HMOST := Lib.hid (fun u => most_any k u)
  obtain ⟨mk, hmk⟩ : ∃ m, m = mostE k := ⟨_, rfl⟩
  have HMK := Lib.hid hmk
  rw [← hmk] at HMOST
  obtain ⟨p, hp⟩ : ∃ p, p = hasB k := ⟨_, rfl⟩
  have hhas := fun u => has_any k u
  rw [← hp] at hhas
  have HHAS := Lib.hid hhas
  have HK := Lib.hid hk
  have hkc := kindE_cases k
  have HCK : Hid (checkE e = if kindE k = 0 then 10 else if badE e then 4 else if 3 ≤ kindE k ∧ kindOf e.topic = 0 then 9 else if kindE k = 1 ∧ e.body = [] then 4 else if (kindE k = 1 ∨ kindE k = 4) ∧ mostE k < e.body.length then 3 else 0) := Lib.hid (by rw [hk]; rfl)
  have HBAD : Hid (badE e ↔ (kindE k ≤ 2 ∧ e.topic ≠ []) ∨ (kindE k ≠ 2 ∧ e.commit ≠ zid) ∨ ((kindE k = 2 ∨ kindE k = 3) ∧ e.body ≠ [])) := Lib.hid (by rw [hk]; rfl)
  clear hX hB hw1 hS HC hr ht hb hk hts hbs hmk hhas
  unfold env

  rcases hkc with ⟨hkk, hk1⟩ | ⟨hkk, hk1⟩ | ⟨hkk, hk1⟩ | ⟨hkk, hk1⟩ | ⟨hkk, -⟩
  · have inT := Lib.hid (in_lit p 84 84 rfl false (by rw [hp]; unfold hasB hasL; rw [hkk]; decide +kernel) (by rw [hp, has_size]; unfold hasL; rw [hkk]; decide))
    have inC := Lib.hid (in_lit p 67 67 rfl false (by rw [hp]; unfold hasB hasL; rw [hkk]; decide +kernel) (by rw [hp, has_size]; unfold hasL; rw [hkk]; decide))
    have inB := Lib.hid (in_lit p 66 66 rfl true (by rw [hp]; unfold hasB hasL; rw [hkk]; decide +kernel) (by rw [hp, has_size]; unfold hasL; rw [hkk]; decide))
    have pE : p.toList.isEmpty = false := by rw [hp]; unfold hasB hasL; rw [hkk]; decide +kernel
    by_cases hto : e.topic = []
    case neg =>
      have tE : ts.toList.isEmpty = false := by rw [HTE.out]; cases h : e.topic with | nil => exact absurd h hto | cons a l => rfl
      have hne : Hid (∀ u : World, (binOp .neq 23 (idv e.commit) (idv zid)).run Tryd.prog u = .ok (.bool (e.commit != zid)) u) := HID
      have HE : Hid (checkE e = 4) := Lib.hid (by rw [HCK.out, hkk]; rw [if_neg (by decide), if_pos (HBAD.out.2 (by rw [hkk]; exact .inl ⟨by decide, hto⟩))])
      clear hkk hp
      try clear hcm
      try clear hto
      try clear hbo
      try clear hkz
      try clear hlo
      go_enter Tryd.func11, Tryd.ntmps11
      go_upto_region 1 with fail
      refine wp_at HW.out.symm ?_
      rw [← HS.out]
      clear HW
      go_wp2_with (first
        | (go_at_call 25; (with_reducible refine (HHAS.out _).mono ?_); rintro x w2 ⟨rfl, rfl⟩)
        | (go_at_call 26; (with_reducible refine (inT.out _).mono ?_); rintro x w2 ⟨rfl, rfl⟩)
        | (go_at_call 26; (with_reducible refine (inC.out _).mono ?_); rintro x w2 ⟨rfl, rfl⟩)
        | (go_at_call 26; (with_reducible refine (inB.out _).mono ?_); rintro x w2 ⟨rfl, rfl⟩)
        | (go_at_call 30; (with_reducible refine (HKI.out _).mono ?_); rintro x w2 ⟨rfl, hnq⟩; rw [HKT.out]; have d0 : w2.cell? ⟨S, 0, none⟩ = some (.int .i64 k) := (by obtain ⟨m, rfl⟩ := hnq; exact c0); have d2 : w2.cell? ⟨S, 2, none⟩ = some (.string bs) := (by obtain ⟨m, rfl⟩ := hnq; exact c2); have HBW : Hid (Below w.heap.size w w2) := Lib.hid (by obtain ⟨m, rfl⟩ := hnq; exact below_drewN HB.out m); clear hnq)
        | ((with_reducible refine step_load_w (t := 23) (x := .tmp 22) (p := ?lpk1) (v := ?lvk1) ?lgk1 ?lok1 ?lxk1 ?lrk1 ?lhk1); (case lok1 => rfl); (case lgk1 => rfl); (case lxk1 => rfl); (case lrk1 => exact hl))
        | ((with_reducible refine step_neq_w (t := 23) (x := .tmp 23) (y := .tmp 24) (t2 := ?nbk1) (u := ?nuk1) (v := ?nvk1) (r := ?nrk1) ?nwk1 ?nok1 ?nxk1 ?nyk1 ?ngk1 ?nqk1 ?nhk1); (case nok1 => rfl); (case nwk1 => rfl); (case nxk1 => rfl); (case nyk1 => rfl); (case ngk1 => exact HGD.out _); (case nqk1 => exact hne.out _)))
      go_ret
      exact ⟨by rw [HE.out]; rfl, by first | exact HBW.out | exact below_drewN HBW.out _ | exact HB.out | exact below_drewN HB.out _⟩
    have tE : ts.toList.isEmpty = true := by rw [HTE.out, hto]; rfl
    by_cases hcm : e.commit = zid
    case neg =>
      have hne : Hid (∀ u : World, (binOp .neq 23 (idv e.commit) (idv zid)).run Tryd.prog u = .ok (.bool true) u) := Lib.hid fun u => by rw [HID.out u, bne_iff_ne.2 hcm]
      have HE : Hid (checkE e = 4) := Lib.hid (by rw [HCK.out, hkk]; rw [if_neg (by decide), if_pos (HBAD.out.2 (by rw [hkk]; exact .inr (.inl ⟨by decide, hcm⟩)))])
      clear hkk hp
      try clear hcm
      try clear hto
      try clear hbo
      try clear hkz
      try clear hlo
      go_enter Tryd.func11, Tryd.ntmps11
      go_upto_region 1 with fail
      refine wp_at HW.out.symm ?_
      rw [← HS.out]
      clear HW
      go_wp2_with (first
        | (go_at_call 25; (with_reducible refine (HHAS.out _).mono ?_); rintro x w2 ⟨rfl, rfl⟩)
        | (go_at_call 26; (with_reducible refine (inT.out _).mono ?_); rintro x w2 ⟨rfl, rfl⟩)
        | (go_at_call 26; (with_reducible refine (inC.out _).mono ?_); rintro x w2 ⟨rfl, rfl⟩)
        | (go_at_call 26; (with_reducible refine (inB.out _).mono ?_); rintro x w2 ⟨rfl, rfl⟩)
        | (go_at_call 30; (with_reducible refine (HKI.out _).mono ?_); rintro x w2 ⟨rfl, hnq⟩; rw [HKT.out]; have d0 : w2.cell? ⟨S, 0, none⟩ = some (.int .i64 k) := (by obtain ⟨m, rfl⟩ := hnq; exact c0); have d2 : w2.cell? ⟨S, 2, none⟩ = some (.string bs) := (by obtain ⟨m, rfl⟩ := hnq; exact c2); have HBW : Hid (Below w.heap.size w w2) := Lib.hid (by obtain ⟨m, rfl⟩ := hnq; exact below_drewN HB.out m); clear hnq)
        | ((with_reducible refine step_load_w (t := 23) (x := .tmp 22) (p := ?lpk2) (v := ?lvk2) ?lgk2 ?lok2 ?lxk2 ?lrk2 ?lhk2); (case lok2 => rfl); (case lgk2 => rfl); (case lxk2 => rfl); (case lrk2 => exact hl))
        | ((with_reducible refine step_neq_w (t := 23) (x := .tmp 23) (y := .tmp 24) (t2 := ?nbk2) (u := ?nuk2) (v := ?nvk2) (r := ?nrk2) ?nwk2 ?nok2 ?nxk2 ?nyk2 ?ngk2 ?nqk2 ?nhk2); (case nok2 => rfl); (case nwk2 => rfl); (case nxk2 => rfl); (case nyk2 => rfl); (case ngk2 => exact HGD.out _); (case nqk2 => exact hne.out _)))
      go_ret
      exact ⟨by rw [HE.out]; rfl, by first | exact HBW.out | exact below_drewN HBW.out _ | exact HB.out | exact below_drewN HB.out _⟩
    have hne : Hid (∀ u : World, (binOp .neq 23 (idv e.commit) (idv zid)).run Tryd.prog u = .ok (.bool false) u) := Lib.hid fun u => by rw [HID.out u, bne_eq_false_iff_eq.2 hcm]
    have HNB : Hid (¬ badE e) := Lib.hid fun h => by
      have h := HBAD.out.1 h
      rw [hkk] at h
      rcases h with h | h | h
      · exact h.2 hto
      · exact h.2 hcm
      · exact absurd h.1 (by decide)
    have k7 : (k == 7) = false := beq_eq_false_iff_ne.2 (by omega)
    by_cases hbo : e.body = []
    case pos =>
      have bE : bs.toList.isEmpty = true := by rw [HBE.out, hbo]; rfl
      have HE : Hid (checkE e = 4) := Lib.hid (by rw [HCK.out, hkk]; rw [if_neg (by decide), if_neg HNB.out, if_neg (fun h => absurd h.1 (by decide))]; rw [if_pos ⟨rfl, hbo⟩])
      clear hkk hp
      try clear hcm
      try clear hto
      try clear hbo
      try clear hkz
      try clear hlo
      go_enter Tryd.func11, Tryd.ntmps11
      go_upto_region 1 with fail
      refine wp_at HW.out.symm ?_
      rw [← HS.out]
      clear HW
      go_wp2_with (first
        | (go_at_call 25; (with_reducible refine (HHAS.out _).mono ?_); rintro x w2 ⟨rfl, rfl⟩)
        | (go_at_call 26; (with_reducible refine (inT.out _).mono ?_); rintro x w2 ⟨rfl, rfl⟩)
        | (go_at_call 26; (with_reducible refine (inC.out _).mono ?_); rintro x w2 ⟨rfl, rfl⟩)
        | (go_at_call 26; (with_reducible refine (inB.out _).mono ?_); rintro x w2 ⟨rfl, rfl⟩)
        | (go_at_call 30; (with_reducible refine (HKI.out _).mono ?_); rintro x w2 ⟨rfl, hnq⟩; rw [HKT.out]; have d0 : w2.cell? ⟨S, 0, none⟩ = some (.int .i64 k) := (by obtain ⟨m, rfl⟩ := hnq; exact c0); have d2 : w2.cell? ⟨S, 2, none⟩ = some (.string bs) := (by obtain ⟨m, rfl⟩ := hnq; exact c2); have HBW : Hid (Below w.heap.size w w2) := Lib.hid (by obtain ⟨m, rfl⟩ := hnq; exact below_drewN HB.out m); clear hnq)
        | ((with_reducible refine step_load_w (t := 23) (x := .tmp 22) (p := ?lpk3) (v := ?lvk3) ?lgk3 ?lok3 ?lxk3 ?lrk3 ?lhk3); (case lok3 => rfl); (case lgk3 => rfl); (case lxk3 => rfl); (case lrk3 => exact hl))
        | ((with_reducible refine step_neq_w (t := 23) (x := .tmp 23) (y := .tmp 24) (t2 := ?nbk3) (u := ?nuk3) (v := ?nvk3) (r := ?nrk3) ?nwk3 ?nok3 ?nxk3 ?nyk3 ?ngk3 ?nqk3 ?nhk3); (case nok3 => rfl); (case nwk3 => rfl); (case nxk3 => rfl); (case nyk3 => rfl); (case ngk3 => exact HGD.out _); (case nqk3 => exact hne.out _)))
      go_ret
      exact ⟨by rw [HE.out]; rfl, by first | exact HBW.out | exact below_drewN HBW.out _ | exact HB.out | exact below_drewN HB.out _⟩
    have bE : bs.toList.isEmpty = false := by rw [HBE.out]; cases h : e.body with | nil => exact absurd h hbo | cons a l => rfl
    by_cases hlo : mostE k < e.body.length
    case pos =>
      have lo : (mk : Int) < (bs.size : Int) := by rw [HBS.out, HMK.out]; omega
      have HE : Hid (checkE e = 3) := Lib.hid (by rw [HCK.out, hkk]; rw [if_neg (by decide), if_neg HNB.out, if_neg (fun h => absurd h.1 (by decide))]; rw [if_neg (fun h => hbo h.2)]; rw [if_pos ⟨by decide, hlo⟩])
      clear hkk hp
      try clear hcm
      try clear hto
      try clear hbo
      try clear hkz
      try clear hlo
      go_enter Tryd.func11, Tryd.ntmps11
      go_upto_region 1 with fail
      refine wp_at HW.out.symm ?_
      rw [← HS.out]
      clear HW
      go_upto_region 10 with (first
        | (go_at_call 25; (with_reducible refine (HHAS.out _).mono ?_); rintro x w2 ⟨rfl, rfl⟩)
        | (go_at_call 26; (with_reducible refine (inT.out _).mono ?_); rintro x w2 ⟨rfl, rfl⟩)
        | (go_at_call 26; (with_reducible refine (inC.out _).mono ?_); rintro x w2 ⟨rfl, rfl⟩)
        | (go_at_call 26; (with_reducible refine (inB.out _).mono ?_); rintro x w2 ⟨rfl, rfl⟩)
        | (go_at_call 30; (with_reducible refine (HKI.out _).mono ?_); rintro x w2 ⟨rfl, hnq⟩; rw [HKT.out]; have d0 : w2.cell? ⟨S, 0, none⟩ = some (.int .i64 k) := (by obtain ⟨m, rfl⟩ := hnq; exact c0); have d2 : w2.cell? ⟨S, 2, none⟩ = some (.string bs) := (by obtain ⟨m, rfl⟩ := hnq; exact c2); have HBW : Hid (Below w.heap.size w w2) := Lib.hid (by obtain ⟨m, rfl⟩ := hnq; exact below_drewN HB.out m); clear hnq)
        | ((with_reducible refine step_load_w (t := 23) (x := .tmp 22) (p := ?lpk4) (v := ?lvk4) ?lgk4 ?lok4 ?lxk4 ?lrk4 ?lhk4); (case lok4 => rfl); (case lgk4 => rfl); (case lxk4 => rfl); (case lrk4 => exact hl))
        | ((with_reducible refine step_neq_w (t := 23) (x := .tmp 23) (y := .tmp 24) (t2 := ?nbk4) (u := ?nuk4) (v := ?nvk4) (r := ?nrk4) ?nwk4 ?nok4 ?nxk4 ?nyk4 ?ngk4 ?nqk4 ?nhk4); (case nok4 => rfl); (case nwk4 => rfl); (case nxk4 => rfl); (case nyk4 => rfl); (case ngk4 => exact HGD.out _); (case nqk4 => exact hne.out _)))
      go_quiet (first | (go_at_call 26; exact quiet_left ((inB.out _).mono fun _ _ ⟨he, hw⟩ => ⟨he, hw⟩)) | (go_at_call 31; exact quiet_left ((HMOST.out _).mono fun _ _ ⟨he, hw⟩ => ⟨he, hw⟩)))
      go_wp2_with fail
      go_ret
      exact ⟨by rw [HE.out]; rfl, by first | exact HBW.out | exact below_drewN HBW.out _ | exact HB.out | exact below_drewN HB.out _⟩
    have lo : (bs.size : Int) ≤ (mk : Int) := by rw [HBS.out, HMK.out]; omega
    have HE : Hid (checkE e = 0) := Lib.hid (by rw [HCK.out, hkk]; rw [if_neg (by decide), if_neg HNB.out, if_neg (fun h => absurd h.1 (by decide))]; rw [if_neg (fun h => hbo h.2)]; rw [if_neg (fun h => hlo h.2)])
    clear hkk hp
    try clear hcm
    try clear hto
    try clear hbo
    try clear hkz
    try clear hlo
    go_enter Tryd.func11, Tryd.ntmps11
    go_upto_region 1 with fail
    refine wp_at HW.out.symm ?_
    rw [← HS.out]
    clear HW
    go_upto_region 10 with (first
      | (go_at_call 25; (with_reducible refine (HHAS.out _).mono ?_); rintro x w2 ⟨rfl, rfl⟩)
      | (go_at_call 26; (with_reducible refine (inT.out _).mono ?_); rintro x w2 ⟨rfl, rfl⟩)
      | (go_at_call 26; (with_reducible refine (inC.out _).mono ?_); rintro x w2 ⟨rfl, rfl⟩)
      | (go_at_call 26; (with_reducible refine (inB.out _).mono ?_); rintro x w2 ⟨rfl, rfl⟩)
      | (go_at_call 30; (with_reducible refine (HKI.out _).mono ?_); rintro x w2 ⟨rfl, hnq⟩; rw [HKT.out]; have d0 : w2.cell? ⟨S, 0, none⟩ = some (.int .i64 k) := (by obtain ⟨m, rfl⟩ := hnq; exact c0); have d2 : w2.cell? ⟨S, 2, none⟩ = some (.string bs) := (by obtain ⟨m, rfl⟩ := hnq; exact c2); have HBW : Hid (Below w.heap.size w w2) := Lib.hid (by obtain ⟨m, rfl⟩ := hnq; exact below_drewN HB.out m); clear hnq)
      | ((with_reducible refine step_load_w (t := 23) (x := .tmp 22) (p := ?lpk5) (v := ?lvk5) ?lgk5 ?lok5 ?lxk5 ?lrk5 ?lhk5); (case lok5 => rfl); (case lgk5 => rfl); (case lxk5 => rfl); (case lrk5 => exact hl))
      | ((with_reducible refine step_neq_w (t := 23) (x := .tmp 23) (y := .tmp 24) (t2 := ?nbk5) (u := ?nuk5) (v := ?nvk5) (r := ?nrk5) ?nwk5 ?nok5 ?nxk5 ?nyk5 ?ngk5 ?nqk5 ?nhk5); (case nok5 => rfl); (case nwk5 => rfl); (case nxk5 => rfl); (case nyk5 => rfl); (case ngk5 => exact HGD.out _); (case nqk5 => exact hne.out _)))
    go_quiet (first | (go_at_call 26; exact quiet_left ((inB.out _).mono fun _ _ ⟨he, hw⟩ => ⟨he, hw⟩)) | (go_at_call 31; exact quiet_left ((HMOST.out _).mono fun _ _ ⟨he, hw⟩ => ⟨he, hw⟩)))
    go_wp2_with fail
    go_ret
    exact ⟨by rw [HE.out]; rfl, by first | exact HBW.out | exact below_drewN HBW.out _ | exact HB.out | exact below_drewN HB.out _⟩
  · obtain rfl := hk1
    have inT := Lib.hid (in_lit p 84 84 rfl false (by rw [hp]; unfold hasB hasL; rw [hkk]; decide +kernel) (by rw [hp, has_size]; unfold hasL; rw [hkk]; decide))
    have inC := Lib.hid (in_lit p 67 67 rfl true (by rw [hp]; unfold hasB hasL; rw [hkk]; decide +kernel) (by rw [hp, has_size]; unfold hasL; rw [hkk]; decide))
    have inB := Lib.hid (in_lit p 66 66 rfl false (by rw [hp]; unfold hasB hasL; rw [hkk]; decide +kernel) (by rw [hp, has_size]; unfold hasL; rw [hkk]; decide))
    have pE : p.toList.isEmpty = false := by rw [hp]; unfold hasB hasL; rw [hkk]; decide +kernel
    have hne : Hid (∀ u : World, (binOp .neq 23 (idv e.commit) (idv zid)).run Tryd.prog u = .ok (.bool (e.commit != zid)) u) := HID
    by_cases hto : e.topic = []
    case neg =>
      have tE : ts.toList.isEmpty = false := by rw [HTE.out]; cases h : e.topic with | nil => exact absurd h hto | cons a l => rfl
      have hne : Hid (∀ u : World, (binOp .neq 23 (idv e.commit) (idv zid)).run Tryd.prog u = .ok (.bool (e.commit != zid)) u) := HID
      have HE : Hid (checkE e = 4) := Lib.hid (by rw [HCK.out, hkk]; rw [if_neg (by decide), if_pos (HBAD.out.2 (by rw [hkk]; exact .inl ⟨by decide, hto⟩))])
      clear hkk hp
      try clear hcm
      try clear hto
      try clear hbo
      try clear hkz
      try clear hlo
      go_enter Tryd.func11, Tryd.ntmps11
      go_upto_region 1 with fail
      refine wp_at HW.out.symm ?_
      rw [← HS.out]
      clear HW
      go_wp2_with (first
        | (go_at_call 25; (with_reducible refine (HHAS.out _).mono ?_); rintro x w2 ⟨rfl, rfl⟩)
        | (go_at_call 26; (with_reducible refine (inT.out _).mono ?_); rintro x w2 ⟨rfl, rfl⟩)
        | (go_at_call 26; (with_reducible refine (inC.out _).mono ?_); rintro x w2 ⟨rfl, rfl⟩)
        | (go_at_call 26; (with_reducible refine (inB.out _).mono ?_); rintro x w2 ⟨rfl, rfl⟩)
        | (go_at_call 30; (with_reducible refine (HKI.out _).mono ?_); rintro x w2 ⟨rfl, hnq⟩; rw [HKT.out]; have d0 : w2.cell? ⟨S, 0, none⟩ = some (.int .i64 4) := (by obtain ⟨m, rfl⟩ := hnq; exact c0); have d2 : w2.cell? ⟨S, 2, none⟩ = some (.string bs) := (by obtain ⟨m, rfl⟩ := hnq; exact c2); have HBW : Hid (Below w.heap.size w w2) := Lib.hid (by obtain ⟨m, rfl⟩ := hnq; exact below_drewN HB.out m); clear hnq)
        | ((with_reducible refine step_load_w (t := 23) (x := .tmp 22) (p := ?lpk6) (v := ?lvk6) ?lgk6 ?lok6 ?lxk6 ?lrk6 ?lhk6); (case lok6 => rfl); (case lgk6 => rfl); (case lxk6 => rfl); (case lrk6 => exact hl))
        | ((with_reducible refine step_neq_w (t := 23) (x := .tmp 23) (y := .tmp 24) (t2 := ?nbk6) (u := ?nuk6) (v := ?nvk6) (r := ?nrk6) ?nwk6 ?nok6 ?nxk6 ?nyk6 ?ngk6 ?nqk6 ?nhk6); (case nok6 => rfl); (case nwk6 => rfl); (case nxk6 => rfl); (case nyk6 => rfl); (case ngk6 => exact HGD.out _); (case nqk6 => exact hne.out _)))
      go_ret
      exact ⟨by rw [HE.out]; rfl, by first | exact HBW.out | exact below_drewN HBW.out _ | exact HB.out | exact below_drewN HB.out _⟩
    have tE : ts.toList.isEmpty = true := by rw [HTE.out, hto]; rfl
    by_cases hbo : e.body = []
    case neg =>
      have bE : bs.toList.isEmpty = false := by rw [HBE.out]; cases h : e.body with | nil => exact absurd h hbo | cons a l => rfl
      have HE : Hid (checkE e = 4) := Lib.hid (by rw [HCK.out, hkk]; rw [if_neg (by decide), if_pos (HBAD.out.2 (by rw [hkk]; exact .inr (.inr ⟨by decide, hbo⟩)))])
      clear hkk hp
      try clear hcm
      try clear hto
      try clear hbo
      try clear hkz
      try clear hlo
      go_enter Tryd.func11, Tryd.ntmps11
      go_upto_region 1 with fail
      refine wp_at HW.out.symm ?_
      rw [← HS.out]
      clear HW
      go_wp2_with (first
        | (go_at_call 25; (with_reducible refine (HHAS.out _).mono ?_); rintro x w2 ⟨rfl, rfl⟩)
        | (go_at_call 26; (with_reducible refine (inT.out _).mono ?_); rintro x w2 ⟨rfl, rfl⟩)
        | (go_at_call 26; (with_reducible refine (inC.out _).mono ?_); rintro x w2 ⟨rfl, rfl⟩)
        | (go_at_call 26; (with_reducible refine (inB.out _).mono ?_); rintro x w2 ⟨rfl, rfl⟩)
        | (go_at_call 30; (with_reducible refine (HKI.out _).mono ?_); rintro x w2 ⟨rfl, hnq⟩; rw [HKT.out]; have d0 : w2.cell? ⟨S, 0, none⟩ = some (.int .i64 4) := (by obtain ⟨m, rfl⟩ := hnq; exact c0); have d2 : w2.cell? ⟨S, 2, none⟩ = some (.string bs) := (by obtain ⟨m, rfl⟩ := hnq; exact c2); have HBW : Hid (Below w.heap.size w w2) := Lib.hid (by obtain ⟨m, rfl⟩ := hnq; exact below_drewN HB.out m); clear hnq)
        | ((with_reducible refine step_load_w (t := 23) (x := .tmp 22) (p := ?lpk7) (v := ?lvk7) ?lgk7 ?lok7 ?lxk7 ?lrk7 ?lhk7); (case lok7 => rfl); (case lgk7 => rfl); (case lxk7 => rfl); (case lrk7 => exact hl))
        | ((with_reducible refine step_neq_w (t := 23) (x := .tmp 23) (y := .tmp 24) (t2 := ?nbk7) (u := ?nuk7) (v := ?nvk7) (r := ?nrk7) ?nwk7 ?nok7 ?nxk7 ?nyk7 ?ngk7 ?nqk7 ?nhk7); (case nok7 => rfl); (case nwk7 => rfl); (case nxk7 => rfl); (case nyk7 => rfl); (case ngk7 => exact HGD.out _); (case nqk7 => exact hne.out _)))
      go_ret
      exact ⟨by rw [HE.out]; rfl, by first | exact HBW.out | exact below_drewN HBW.out _ | exact HB.out | exact below_drewN HB.out _⟩
    have bE : bs.toList.isEmpty = true := by rw [HBE.out, hbo]; rfl
    have HNB : Hid (¬ badE e) := Lib.hid fun h => by
      have h := HBAD.out.1 h
      rw [hkk] at h
      rcases h with h | h | h
      · exact h.2 hto
      · exact absurd rfl h.1
      · exact h.2 hbo
    have HE : Hid (checkE e = 0) := Lib.hid (by rw [HCK.out, hkk]; rw [if_neg (by decide), if_neg HNB.out, if_neg (fun h => absurd h.1 (by decide)), if_neg (fun h => absurd h.1 (by decide)), if_neg (fun h => absurd h.1 (by decide))])
    clear hkk hp
    try clear hcm
    try clear hto
    try clear hbo
    try clear hkz
    try clear hlo
    go_enter Tryd.func11, Tryd.ntmps11
    go_upto_region 1 with fail
    refine wp_at HW.out.symm ?_
    rw [← HS.out]
    clear HW
    go_upto_region 10 with (first
      | (go_at_call 25; (with_reducible refine (HHAS.out _).mono ?_); rintro x w2 ⟨rfl, rfl⟩)
      | (go_at_call 26; (with_reducible refine (inT.out _).mono ?_); rintro x w2 ⟨rfl, rfl⟩)
      | (go_at_call 26; (with_reducible refine (inC.out _).mono ?_); rintro x w2 ⟨rfl, rfl⟩)
      | (go_at_call 26; (with_reducible refine (inB.out _).mono ?_); rintro x w2 ⟨rfl, rfl⟩)
      | (go_at_call 30; (with_reducible refine (HKI.out _).mono ?_); rintro x w2 ⟨rfl, hnq⟩; rw [HKT.out]; have d0 : w2.cell? ⟨S, 0, none⟩ = some (.int .i64 4) := (by obtain ⟨m, rfl⟩ := hnq; exact c0); have d2 : w2.cell? ⟨S, 2, none⟩ = some (.string bs) := (by obtain ⟨m, rfl⟩ := hnq; exact c2); have HBW : Hid (Below w.heap.size w w2) := Lib.hid (by obtain ⟨m, rfl⟩ := hnq; exact below_drewN HB.out m); clear hnq)
      | ((with_reducible refine step_load_w (t := 23) (x := .tmp 22) (p := ?lpk8) (v := ?lvk8) ?lgk8 ?lok8 ?lxk8 ?lrk8 ?lhk8); (case lok8 => rfl); (case lgk8 => rfl); (case lxk8 => rfl); (case lrk8 => exact hl))
      | ((with_reducible refine step_neq_w (t := 23) (x := .tmp 23) (y := .tmp 24) (t2 := ?nbk8) (u := ?nuk8) (v := ?nvk8) (r := ?nrk8) ?nwk8 ?nok8 ?nxk8 ?nyk8 ?ngk8 ?nqk8 ?nhk8); (case nok8 => rfl); (case nwk8 => rfl); (case nxk8 => rfl); (case nyk8 => rfl); (case ngk8 => exact HGD.out _); (case nqk8 => exact hne.out _)))
    go_quiet (first | (go_at_call 26; exact quiet_left ((inB.out _).mono fun _ _ ⟨he, hw⟩ => ⟨he, hw⟩)) | (go_at_call 31; exact quiet_left ((HMOST.out _).mono fun _ _ ⟨he, hw⟩ => ⟨he, hw⟩)))
    go_wp2_with fail
    go_ret
    exact ⟨by rw [HE.out]; rfl, by first | exact HBW.out | exact below_drewN HBW.out _ | exact HB.out | exact below_drewN HB.out _⟩
  · have inT := Lib.hid (in_lit p 84 84 rfl true (by rw [hp]; unfold hasB hasL; rw [hkk]; decide +kernel) (by rw [hp, has_size]; unfold hasL; rw [hkk]; decide))
    have inC := Lib.hid (in_lit p 67 67 rfl false (by rw [hp]; unfold hasB hasL; rw [hkk]; decide +kernel) (by rw [hp, has_size]; unfold hasL; rw [hkk]; decide))
    have inB := Lib.hid (in_lit p 66 66 rfl false (by rw [hp]; unfold hasB hasL; rw [hkk]; decide +kernel) (by rw [hp, has_size]; unfold hasL; rw [hkk]; decide))
    have pE : p.toList.isEmpty = false := by rw [hp]; unfold hasB hasL; rw [hkk]; decide +kernel
    by_cases hcm : e.commit = zid
    case neg =>
      have hne : Hid (∀ u : World, (binOp .neq 23 (idv e.commit) (idv zid)).run Tryd.prog u = .ok (.bool true) u) := Lib.hid fun u => by rw [HID.out u, bne_iff_ne.2 hcm]
      have HE : Hid (checkE e = 4) := Lib.hid (by rw [HCK.out, hkk]; rw [if_neg (by decide), if_pos (HBAD.out.2 (by rw [hkk]; exact .inr (.inl ⟨by decide, hcm⟩)))])
      clear hkk hp
      try clear hcm
      try clear hto
      try clear hbo
      try clear hkz
      try clear hlo
      go_enter Tryd.func11, Tryd.ntmps11
      go_upto_region 1 with fail
      refine wp_at HW.out.symm ?_
      rw [← HS.out]
      clear HW
      go_wp2_with (first
        | (go_at_call 25; (with_reducible refine (HHAS.out _).mono ?_); rintro x w2 ⟨rfl, rfl⟩)
        | (go_at_call 26; (with_reducible refine (inT.out _).mono ?_); rintro x w2 ⟨rfl, rfl⟩)
        | (go_at_call 26; (with_reducible refine (inC.out _).mono ?_); rintro x w2 ⟨rfl, rfl⟩)
        | (go_at_call 26; (with_reducible refine (inB.out _).mono ?_); rintro x w2 ⟨rfl, rfl⟩)
        | (go_at_call 30; (with_reducible refine (HKI.out _).mono ?_); rintro x w2 ⟨rfl, hnq⟩; rw [HKT.out]; have d0 : w2.cell? ⟨S, 0, none⟩ = some (.int .i64 k) := (by obtain ⟨m, rfl⟩ := hnq; exact c0); have d2 : w2.cell? ⟨S, 2, none⟩ = some (.string bs) := (by obtain ⟨m, rfl⟩ := hnq; exact c2); have HBW : Hid (Below w.heap.size w w2) := Lib.hid (by obtain ⟨m, rfl⟩ := hnq; exact below_drewN HB.out m); clear hnq)
        | ((with_reducible refine step_load_w (t := 23) (x := .tmp 22) (p := ?lpk9) (v := ?lvk9) ?lgk9 ?lok9 ?lxk9 ?lrk9 ?lhk9); (case lok9 => rfl); (case lgk9 => rfl); (case lxk9 => rfl); (case lrk9 => exact hl))
        | ((with_reducible refine step_neq_w (t := 23) (x := .tmp 23) (y := .tmp 24) (t2 := ?nbk9) (u := ?nuk9) (v := ?nvk9) (r := ?nrk9) ?nwk9 ?nok9 ?nxk9 ?nyk9 ?ngk9 ?nqk9 ?nhk9); (case nok9 => rfl); (case nwk9 => rfl); (case nxk9 => rfl); (case nyk9 => rfl); (case ngk9 => exact HGD.out _); (case nqk9 => exact hne.out _)))
      go_ret
      exact ⟨by rw [HE.out]; rfl, by first | exact HBW.out | exact below_drewN HBW.out _ | exact HB.out | exact below_drewN HB.out _⟩
    have hne : Hid (∀ u : World, (binOp .neq 23 (idv e.commit) (idv zid)).run Tryd.prog u = .ok (.bool false) u) := Lib.hid fun u => by rw [HID.out u, bne_eq_false_iff_eq.2 hcm]
    by_cases hbo : e.body = []
    case neg =>
      have bE : bs.toList.isEmpty = false := by rw [HBE.out]; cases h : e.body with | nil => exact absurd h hbo | cons a l => rfl
      have HE : Hid (checkE e = 4) := Lib.hid (by rw [HCK.out, hkk]; rw [if_neg (by decide), if_pos (HBAD.out.2 (by rw [hkk]; exact .inr (.inr ⟨by decide, hbo⟩)))])
      clear hkk hp
      try clear hcm
      try clear hto
      try clear hbo
      try clear hkz
      try clear hlo
      go_enter Tryd.func11, Tryd.ntmps11
      go_upto_region 1 with fail
      refine wp_at HW.out.symm ?_
      rw [← HS.out]
      clear HW
      go_wp2_with (first
        | (go_at_call 25; (with_reducible refine (HHAS.out _).mono ?_); rintro x w2 ⟨rfl, rfl⟩)
        | (go_at_call 26; (with_reducible refine (inT.out _).mono ?_); rintro x w2 ⟨rfl, rfl⟩)
        | (go_at_call 26; (with_reducible refine (inC.out _).mono ?_); rintro x w2 ⟨rfl, rfl⟩)
        | (go_at_call 26; (with_reducible refine (inB.out _).mono ?_); rintro x w2 ⟨rfl, rfl⟩)
        | (go_at_call 30; (with_reducible refine (HKI.out _).mono ?_); rintro x w2 ⟨rfl, hnq⟩; rw [HKT.out]; have d0 : w2.cell? ⟨S, 0, none⟩ = some (.int .i64 k) := (by obtain ⟨m, rfl⟩ := hnq; exact c0); have d2 : w2.cell? ⟨S, 2, none⟩ = some (.string bs) := (by obtain ⟨m, rfl⟩ := hnq; exact c2); have HBW : Hid (Below w.heap.size w w2) := Lib.hid (by obtain ⟨m, rfl⟩ := hnq; exact below_drewN HB.out m); clear hnq)
        | ((with_reducible refine step_load_w (t := 23) (x := .tmp 22) (p := ?lpk10) (v := ?lvk10) ?lgk10 ?lok10 ?lxk10 ?lrk10 ?lhk10); (case lok10 => rfl); (case lgk10 => rfl); (case lxk10 => rfl); (case lrk10 => exact hl))
        | ((with_reducible refine step_neq_w (t := 23) (x := .tmp 23) (y := .tmp 24) (t2 := ?nbk10) (u := ?nuk10) (v := ?nvk10) (r := ?nrk10) ?nwk10 ?nok10 ?nxk10 ?nyk10 ?ngk10 ?nqk10 ?nhk10); (case nok10 => rfl); (case nwk10 => rfl); (case nxk10 => rfl); (case nyk10 => rfl); (case ngk10 => exact HGD.out _); (case nqk10 => exact hne.out _)))
      go_ret
      exact ⟨by rw [HE.out]; rfl, by first | exact HBW.out | exact below_drewN HBW.out _ | exact HB.out | exact below_drewN HB.out _⟩
    have bE : bs.toList.isEmpty = true := by rw [HBE.out, hbo]; rfl
    have HNB : Hid (¬ badE e) := Lib.hid fun h => by
      have h := HBAD.out.1 h
      rw [hkk] at h
      rcases h with h | h | h
      · exact absurd h.1 (by decide)
      · exact h.2 hcm
      · exact h.2 hbo
    by_cases hkz : kindOf e.topic = 0
    case pos =>
      have kz : ((kindOf e.topic : Nat) : Int) = 0 := by rw [hkz]; rfl
      have HE : Hid (checkE e = 9) := Lib.hid (by rw [HCK.out, hkk]; rw [if_neg (by decide), if_neg HNB.out, if_pos ⟨by decide, hkz⟩])
      clear hkk hp
      try clear hcm
      try clear hto
      try clear hbo
      try clear hkz
      try clear hlo
      go_enter Tryd.func11, Tryd.ntmps11
      go_upto_region 1 with fail
      refine wp_at HW.out.symm ?_
      rw [← HS.out]
      clear HW
      go_wp2_with (first
        | (go_at_call 25; (with_reducible refine (HHAS.out _).mono ?_); rintro x w2 ⟨rfl, rfl⟩)
        | (go_at_call 26; (with_reducible refine (inT.out _).mono ?_); rintro x w2 ⟨rfl, rfl⟩)
        | (go_at_call 26; (with_reducible refine (inC.out _).mono ?_); rintro x w2 ⟨rfl, rfl⟩)
        | (go_at_call 26; (with_reducible refine (inB.out _).mono ?_); rintro x w2 ⟨rfl, rfl⟩)
        | (go_at_call 30; (with_reducible refine (HKI.out _).mono ?_); rintro x w2 ⟨rfl, hnq⟩; rw [HKT.out]; have d0 : w2.cell? ⟨S, 0, none⟩ = some (.int .i64 k) := (by obtain ⟨m, rfl⟩ := hnq; exact c0); have d2 : w2.cell? ⟨S, 2, none⟩ = some (.string bs) := (by obtain ⟨m, rfl⟩ := hnq; exact c2); have HBW : Hid (Below w.heap.size w w2) := Lib.hid (by obtain ⟨m, rfl⟩ := hnq; exact below_drewN HB.out m); clear hnq)
        | ((with_reducible refine step_load_w (t := 23) (x := .tmp 22) (p := ?lpk11) (v := ?lvk11) ?lgk11 ?lok11 ?lxk11 ?lrk11 ?lhk11); (case lok11 => rfl); (case lgk11 => rfl); (case lxk11 => rfl); (case lrk11 => exact hl))
        | ((with_reducible refine step_neq_w (t := 23) (x := .tmp 23) (y := .tmp 24) (t2 := ?nbk11) (u := ?nuk11) (v := ?nvk11) (r := ?nrk11) ?nwk11 ?nok11 ?nxk11 ?nyk11 ?ngk11 ?nqk11 ?nhk11); (case nok11 => rfl); (case nwk11 => rfl); (case nxk11 => rfl); (case nyk11 => rfl); (case ngk11 => exact HGD.out _); (case nqk11 => exact hne.out _)))
      go_ret
      exact ⟨by rw [HE.out]; rfl, by first | exact HBW.out | exact below_drewN HBW.out _ | exact HB.out | exact below_drewN HB.out _⟩
    have kz : (((kindOf e.topic : Nat) : Int) == 0) = false := beq_eq_false_iff_ne.2 (by omega)
    have HE : Hid (checkE e = 0) := Lib.hid (by rw [HCK.out, hkk]; rw [if_neg (by decide), if_neg HNB.out, if_neg (fun h => hkz h.2), if_neg (fun h => absurd h.1 (by decide)), if_neg (fun h => absurd h.1 (by decide))])
    clear hkk hp
    try clear hcm
    try clear hto
    try clear hbo
    try clear hkz
    try clear hlo
    go_enter Tryd.func11, Tryd.ntmps11
    go_upto_region 1 with fail
    refine wp_at HW.out.symm ?_
    rw [← HS.out]
    clear HW
    go_upto_region 10 with (first
      | (go_at_call 25; (with_reducible refine (HHAS.out _).mono ?_); rintro x w2 ⟨rfl, rfl⟩)
      | (go_at_call 26; (with_reducible refine (inT.out _).mono ?_); rintro x w2 ⟨rfl, rfl⟩)
      | (go_at_call 26; (with_reducible refine (inC.out _).mono ?_); rintro x w2 ⟨rfl, rfl⟩)
      | (go_at_call 26; (with_reducible refine (inB.out _).mono ?_); rintro x w2 ⟨rfl, rfl⟩)
      | (go_at_call 30; (with_reducible refine (HKI.out _).mono ?_); rintro x w2 ⟨rfl, hnq⟩; rw [HKT.out]; have d0 : w2.cell? ⟨S, 0, none⟩ = some (.int .i64 k) := (by obtain ⟨m, rfl⟩ := hnq; exact c0); have d2 : w2.cell? ⟨S, 2, none⟩ = some (.string bs) := (by obtain ⟨m, rfl⟩ := hnq; exact c2); have HBW : Hid (Below w.heap.size w w2) := Lib.hid (by obtain ⟨m, rfl⟩ := hnq; exact below_drewN HB.out m); clear hnq)
      | ((with_reducible refine step_load_w (t := 23) (x := .tmp 22) (p := ?lpk12) (v := ?lvk12) ?lgk12 ?lok12 ?lxk12 ?lrk12 ?lhk12); (case lok12 => rfl); (case lgk12 => rfl); (case lxk12 => rfl); (case lrk12 => exact hl))
      | ((with_reducible refine step_neq_w (t := 23) (x := .tmp 23) (y := .tmp 24) (t2 := ?nbk12) (u := ?nuk12) (v := ?nvk12) (r := ?nrk12) ?nwk12 ?nok12 ?nxk12 ?nyk12 ?ngk12 ?nqk12 ?nhk12); (case nok12 => rfl); (case nwk12 => rfl); (case nxk12 => rfl); (case nyk12 => rfl); (case ngk12 => exact HGD.out _); (case nqk12 => exact hne.out _)))
    go_quiet (first | (go_at_call 26; exact quiet_left ((inB.out _).mono fun _ _ ⟨he, hw⟩ => ⟨he, hw⟩)) | (go_at_call 31; exact quiet_left ((HMOST.out _).mono fun _ _ ⟨he, hw⟩ => ⟨he, hw⟩)))
    go_wp2_with fail
    go_ret
    exact ⟨by rw [HE.out]; rfl, by first | exact HBW.out | exact below_drewN HBW.out _ | exact HB.out | exact below_drewN HB.out _⟩
  · obtain rfl := hk1
    have inT := Lib.hid (in_lit p 84 84 rfl true (by rw [hp]; unfold hasB hasL; rw [hkk]; decide +kernel) (by rw [hp, has_size]; unfold hasL; rw [hkk]; decide))
    have inC := Lib.hid (in_lit p 67 67 rfl false (by rw [hp]; unfold hasB hasL; rw [hkk]; decide +kernel) (by rw [hp, has_size]; unfold hasL; rw [hkk]; decide))
    have inB := Lib.hid (in_lit p 66 66 rfl true (by rw [hp]; unfold hasB hasL; rw [hkk]; decide +kernel) (by rw [hp, has_size]; unfold hasL; rw [hkk]; decide))
    have pE : p.toList.isEmpty = false := by rw [hp]; unfold hasB hasL; rw [hkk]; decide +kernel
    by_cases hcm : e.commit = zid
    case neg =>
      have hne : Hid (∀ u : World, (binOp .neq 23 (idv e.commit) (idv zid)).run Tryd.prog u = .ok (.bool true) u) := Lib.hid fun u => by rw [HID.out u, bne_iff_ne.2 hcm]
      have HE : Hid (checkE e = 4) := Lib.hid (by rw [HCK.out, hkk]; rw [if_neg (by decide), if_pos (HBAD.out.2 (by rw [hkk]; exact .inr (.inl ⟨by decide, hcm⟩)))])
      clear hkk hp
      try clear hcm
      try clear hto
      try clear hbo
      try clear hkz
      try clear hlo
      go_enter Tryd.func11, Tryd.ntmps11
      go_upto_region 1 with fail
      refine wp_at HW.out.symm ?_
      rw [← HS.out]
      clear HW
      go_wp2_with (first
        | (go_at_call 25; (with_reducible refine (HHAS.out _).mono ?_); rintro x w2 ⟨rfl, rfl⟩)
        | (go_at_call 26; (with_reducible refine (inT.out _).mono ?_); rintro x w2 ⟨rfl, rfl⟩)
        | (go_at_call 26; (with_reducible refine (inC.out _).mono ?_); rintro x w2 ⟨rfl, rfl⟩)
        | (go_at_call 26; (with_reducible refine (inB.out _).mono ?_); rintro x w2 ⟨rfl, rfl⟩)
        | (go_at_call 30; (with_reducible refine (HKI.out _).mono ?_); rintro x w2 ⟨rfl, hnq⟩; rw [HKT.out]; have d0 : w2.cell? ⟨S, 0, none⟩ = some (.int .i64 7) := (by obtain ⟨m, rfl⟩ := hnq; exact c0); have d2 : w2.cell? ⟨S, 2, none⟩ = some (.string bs) := (by obtain ⟨m, rfl⟩ := hnq; exact c2); have HBW : Hid (Below w.heap.size w w2) := Lib.hid (by obtain ⟨m, rfl⟩ := hnq; exact below_drewN HB.out m); clear hnq)
        | ((with_reducible refine step_load_w (t := 23) (x := .tmp 22) (p := ?lpk13) (v := ?lvk13) ?lgk13 ?lok13 ?lxk13 ?lrk13 ?lhk13); (case lok13 => rfl); (case lgk13 => rfl); (case lxk13 => rfl); (case lrk13 => exact hl))
        | ((with_reducible refine step_neq_w (t := 23) (x := .tmp 23) (y := .tmp 24) (t2 := ?nbk13) (u := ?nuk13) (v := ?nvk13) (r := ?nrk13) ?nwk13 ?nok13 ?nxk13 ?nyk13 ?ngk13 ?nqk13 ?nhk13); (case nok13 => rfl); (case nwk13 => rfl); (case nxk13 => rfl); (case nyk13 => rfl); (case ngk13 => exact HGD.out _); (case nqk13 => exact hne.out _)))
      go_ret
      exact ⟨by rw [HE.out]; rfl, by first | exact HBW.out | exact below_drewN HBW.out _ | exact HB.out | exact below_drewN HB.out _⟩
    have hne : Hid (∀ u : World, (binOp .neq 23 (idv e.commit) (idv zid)).run Tryd.prog u = .ok (.bool false) u) := Lib.hid fun u => by rw [HID.out u, bne_eq_false_iff_eq.2 hcm]
    have HNB : Hid (¬ badE e) := Lib.hid fun h => by
      have h := HBAD.out.1 h
      rw [hkk] at h
      rcases h with h | h | h
      · exact absurd h.1 (by decide)
      · exact h.2 hcm
      · exact absurd h.1 (by decide)
    by_cases hkz : kindOf e.topic = 0
    case pos =>
      have kz : ((kindOf e.topic : Nat) : Int) = 0 := by rw [hkz]; rfl
      have HE : Hid (checkE e = 9) := Lib.hid (by rw [HCK.out, hkk]; rw [if_neg (by decide), if_neg HNB.out, if_pos ⟨by decide, hkz⟩])
      clear hkk hp
      try clear hcm
      try clear hto
      try clear hbo
      try clear hkz
      try clear hlo
      go_enter Tryd.func11, Tryd.ntmps11
      go_upto_region 1 with fail
      refine wp_at HW.out.symm ?_
      rw [← HS.out]
      clear HW
      go_wp2_with (first
        | (go_at_call 25; (with_reducible refine (HHAS.out _).mono ?_); rintro x w2 ⟨rfl, rfl⟩)
        | (go_at_call 26; (with_reducible refine (inT.out _).mono ?_); rintro x w2 ⟨rfl, rfl⟩)
        | (go_at_call 26; (with_reducible refine (inC.out _).mono ?_); rintro x w2 ⟨rfl, rfl⟩)
        | (go_at_call 26; (with_reducible refine (inB.out _).mono ?_); rintro x w2 ⟨rfl, rfl⟩)
        | (go_at_call 30; (with_reducible refine (HKI.out _).mono ?_); rintro x w2 ⟨rfl, hnq⟩; rw [HKT.out]; have d0 : w2.cell? ⟨S, 0, none⟩ = some (.int .i64 7) := (by obtain ⟨m, rfl⟩ := hnq; exact c0); have d2 : w2.cell? ⟨S, 2, none⟩ = some (.string bs) := (by obtain ⟨m, rfl⟩ := hnq; exact c2); have HBW : Hid (Below w.heap.size w w2) := Lib.hid (by obtain ⟨m, rfl⟩ := hnq; exact below_drewN HB.out m); clear hnq)
        | ((with_reducible refine step_load_w (t := 23) (x := .tmp 22) (p := ?lpk14) (v := ?lvk14) ?lgk14 ?lok14 ?lxk14 ?lrk14 ?lhk14); (case lok14 => rfl); (case lgk14 => rfl); (case lxk14 => rfl); (case lrk14 => exact hl))
        | ((with_reducible refine step_neq_w (t := 23) (x := .tmp 23) (y := .tmp 24) (t2 := ?nbk14) (u := ?nuk14) (v := ?nvk14) (r := ?nrk14) ?nwk14 ?nok14 ?nxk14 ?nyk14 ?ngk14 ?nqk14 ?nhk14); (case nok14 => rfl); (case nwk14 => rfl); (case nxk14 => rfl); (case nyk14 => rfl); (case ngk14 => exact HGD.out _); (case nqk14 => exact hne.out _)))
      go_ret
      exact ⟨by rw [HE.out]; rfl, by first | exact HBW.out | exact below_drewN HBW.out _ | exact HB.out | exact below_drewN HB.out _⟩
    have kz : (((kindOf e.topic : Nat) : Int) == 0) = false := beq_eq_false_iff_ne.2 (by omega)
    by_cases hbe : bs.toList.isEmpty = true
    case pos =>
      by_cases hlo : mostE 7 < e.body.length
      case pos =>
        have lo : (mk : Int) < (bs.size : Int) := by rw [HBS.out, HMK.out]; omega
        have HE : Hid (checkE e = 3) := Lib.hid (by rw [HCK.out, hkk]; rw [if_neg (by decide), if_neg HNB.out, if_neg (fun h => hkz h.2), if_neg (fun h => absurd h.1 (by decide))]; rw [if_pos ⟨by decide, hlo⟩])
        clear hkk hp
        try clear hcm
        try clear hto
        try clear hbo
        try clear hkz
        try clear hlo
        go_enter Tryd.func11, Tryd.ntmps11
        go_upto_region 1 with fail
        refine wp_at HW.out.symm ?_
        rw [← HS.out]
        clear HW
        go_upto_region 10 with (first
          | (go_at_call 25; (with_reducible refine (HHAS.out _).mono ?_); rintro x w2 ⟨rfl, rfl⟩)
          | (go_at_call 26; (with_reducible refine (inT.out _).mono ?_); rintro x w2 ⟨rfl, rfl⟩)
          | (go_at_call 26; (with_reducible refine (inC.out _).mono ?_); rintro x w2 ⟨rfl, rfl⟩)
          | (go_at_call 26; (with_reducible refine (inB.out _).mono ?_); rintro x w2 ⟨rfl, rfl⟩)
          | (go_at_call 30; (with_reducible refine (HKI.out _).mono ?_); rintro x w2 ⟨rfl, hnq⟩; rw [HKT.out]; have d0 : w2.cell? ⟨S, 0, none⟩ = some (.int .i64 7) := (by obtain ⟨m, rfl⟩ := hnq; exact c0); have d2 : w2.cell? ⟨S, 2, none⟩ = some (.string bs) := (by obtain ⟨m, rfl⟩ := hnq; exact c2); have HBW : Hid (Below w.heap.size w w2) := Lib.hid (by obtain ⟨m, rfl⟩ := hnq; exact below_drewN HB.out m); clear hnq)
          | ((with_reducible refine step_load_w (t := 23) (x := .tmp 22) (p := ?lpk15) (v := ?lvk15) ?lgk15 ?lok15 ?lxk15 ?lrk15 ?lhk15); (case lok15 => rfl); (case lgk15 => rfl); (case lxk15 => rfl); (case lrk15 => exact hl))
          | ((with_reducible refine step_neq_w (t := 23) (x := .tmp 23) (y := .tmp 24) (t2 := ?nbk15) (u := ?nuk15) (v := ?nvk15) (r := ?nrk15) ?nwk15 ?nok15 ?nxk15 ?nyk15 ?ngk15 ?nqk15 ?nhk15); (case nok15 => rfl); (case nwk15 => rfl); (case nxk15 => rfl); (case nyk15 => rfl); (case ngk15 => exact HGD.out _); (case nqk15 => exact hne.out _)))
        go_quiet (first | (go_at_call 26; exact quiet_left ((inB.out _).mono fun _ _ ⟨he, hw⟩ => ⟨he, hw⟩)) | (go_at_call 31; exact quiet_left ((HMOST.out _).mono fun _ _ ⟨he, hw⟩ => ⟨he, hw⟩)))
        go_wp2_with fail
        go_ret
        exact ⟨by rw [HE.out]; rfl, by first | exact HBW.out | exact below_drewN HBW.out _ | exact HB.out | exact below_drewN HB.out _⟩
      have lo : (bs.size : Int) ≤ (mk : Int) := by rw [HBS.out, HMK.out]; omega
      have HE : Hid (checkE e = 0) := Lib.hid (by rw [HCK.out, hkk]; rw [if_neg (by decide), if_neg HNB.out, if_neg (fun h => hkz h.2), if_neg (fun h => absurd h.1 (by decide))]; rw [if_neg (fun h => hlo h.2)])
      clear hkk hp
      try clear hcm
      try clear hto
      try clear hbo
      try clear hkz
      try clear hlo
      go_enter Tryd.func11, Tryd.ntmps11
      go_upto_region 1 with fail
      refine wp_at HW.out.symm ?_
      rw [← HS.out]
      clear HW
      go_upto_region 10 with (first
        | (go_at_call 25; (with_reducible refine (HHAS.out _).mono ?_); rintro x w2 ⟨rfl, rfl⟩)
        | (go_at_call 26; (with_reducible refine (inT.out _).mono ?_); rintro x w2 ⟨rfl, rfl⟩)
        | (go_at_call 26; (with_reducible refine (inC.out _).mono ?_); rintro x w2 ⟨rfl, rfl⟩)
        | (go_at_call 26; (with_reducible refine (inB.out _).mono ?_); rintro x w2 ⟨rfl, rfl⟩)
        | (go_at_call 30; (with_reducible refine (HKI.out _).mono ?_); rintro x w2 ⟨rfl, hnq⟩; rw [HKT.out]; have d0 : w2.cell? ⟨S, 0, none⟩ = some (.int .i64 7) := (by obtain ⟨m, rfl⟩ := hnq; exact c0); have d2 : w2.cell? ⟨S, 2, none⟩ = some (.string bs) := (by obtain ⟨m, rfl⟩ := hnq; exact c2); have HBW : Hid (Below w.heap.size w w2) := Lib.hid (by obtain ⟨m, rfl⟩ := hnq; exact below_drewN HB.out m); clear hnq)
        | ((with_reducible refine step_load_w (t := 23) (x := .tmp 22) (p := ?lpk16) (v := ?lvk16) ?lgk16 ?lok16 ?lxk16 ?lrk16 ?lhk16); (case lok16 => rfl); (case lgk16 => rfl); (case lxk16 => rfl); (case lrk16 => exact hl))
        | ((with_reducible refine step_neq_w (t := 23) (x := .tmp 23) (y := .tmp 24) (t2 := ?nbk16) (u := ?nuk16) (v := ?nvk16) (r := ?nrk16) ?nwk16 ?nok16 ?nxk16 ?nyk16 ?ngk16 ?nqk16 ?nhk16); (case nok16 => rfl); (case nwk16 => rfl); (case nxk16 => rfl); (case nyk16 => rfl); (case ngk16 => exact HGD.out _); (case nqk16 => exact hne.out _)))
      go_quiet (first | (go_at_call 26; exact quiet_left ((inB.out _).mono fun _ _ ⟨he, hw⟩ => ⟨he, hw⟩)) | (go_at_call 31; exact quiet_left ((HMOST.out _).mono fun _ _ ⟨he, hw⟩ => ⟨he, hw⟩)))
      go_wp2_with fail
      go_ret
      exact ⟨by rw [HE.out]; rfl, by first | exact HBW.out | exact below_drewN HBW.out _ | exact HB.out | exact below_drewN HB.out _⟩
    have hbe : bs.toList.isEmpty = false := by simpa using hbe
    by_cases hlo : mostE 7 < e.body.length
    case pos =>
      have lo : (mk : Int) < (bs.size : Int) := by rw [HBS.out, HMK.out]; omega
      have HE : Hid (checkE e = 3) := Lib.hid (by rw [HCK.out, hkk]; rw [if_neg (by decide), if_neg HNB.out, if_neg (fun h => hkz h.2), if_neg (fun h => absurd h.1 (by decide))]; rw [if_pos ⟨by decide, hlo⟩])
      clear hkk hp
      try clear hcm
      try clear hto
      try clear hbo
      try clear hkz
      try clear hlo
      go_enter Tryd.func11, Tryd.ntmps11
      go_upto_region 1 with fail
      refine wp_at HW.out.symm ?_
      rw [← HS.out]
      clear HW
      go_upto_region 10 with (first
        | (go_at_call 25; (with_reducible refine (HHAS.out _).mono ?_); rintro x w2 ⟨rfl, rfl⟩)
        | (go_at_call 26; (with_reducible refine (inT.out _).mono ?_); rintro x w2 ⟨rfl, rfl⟩)
        | (go_at_call 26; (with_reducible refine (inC.out _).mono ?_); rintro x w2 ⟨rfl, rfl⟩)
        | (go_at_call 26; (with_reducible refine (inB.out _).mono ?_); rintro x w2 ⟨rfl, rfl⟩)
        | (go_at_call 30; (with_reducible refine (HKI.out _).mono ?_); rintro x w2 ⟨rfl, hnq⟩; rw [HKT.out]; have d0 : w2.cell? ⟨S, 0, none⟩ = some (.int .i64 7) := (by obtain ⟨m, rfl⟩ := hnq; exact c0); have d2 : w2.cell? ⟨S, 2, none⟩ = some (.string bs) := (by obtain ⟨m, rfl⟩ := hnq; exact c2); have HBW : Hid (Below w.heap.size w w2) := Lib.hid (by obtain ⟨m, rfl⟩ := hnq; exact below_drewN HB.out m); clear hnq)
        | ((with_reducible refine step_load_w (t := 23) (x := .tmp 22) (p := ?lpk17) (v := ?lvk17) ?lgk17 ?lok17 ?lxk17 ?lrk17 ?lhk17); (case lok17 => rfl); (case lgk17 => rfl); (case lxk17 => rfl); (case lrk17 => exact hl))
        | ((with_reducible refine step_neq_w (t := 23) (x := .tmp 23) (y := .tmp 24) (t2 := ?nbk17) (u := ?nuk17) (v := ?nvk17) (r := ?nrk17) ?nwk17 ?nok17 ?nxk17 ?nyk17 ?ngk17 ?nqk17 ?nhk17); (case nok17 => rfl); (case nwk17 => rfl); (case nxk17 => rfl); (case nyk17 => rfl); (case ngk17 => exact HGD.out _); (case nqk17 => exact hne.out _)))
      go_quiet (first | (go_at_call 26; exact quiet_left ((inB.out _).mono fun _ _ ⟨he, hw⟩ => ⟨he, hw⟩)) | (go_at_call 31; exact quiet_left ((HMOST.out _).mono fun _ _ ⟨he, hw⟩ => ⟨he, hw⟩)))
      go_wp2_with fail
      go_ret
      exact ⟨by rw [HE.out]; rfl, by first | exact HBW.out | exact below_drewN HBW.out _ | exact HB.out | exact below_drewN HB.out _⟩
    have lo : (bs.size : Int) ≤ (mk : Int) := by rw [HBS.out, HMK.out]; omega
    have HE : Hid (checkE e = 0) := Lib.hid (by rw [HCK.out, hkk]; rw [if_neg (by decide), if_neg HNB.out, if_neg (fun h => hkz h.2), if_neg (fun h => absurd h.1 (by decide))]; rw [if_neg (fun h => hlo h.2)])
    clear hkk hp
    try clear hcm
    try clear hto
    try clear hbo
    try clear hkz
    try clear hlo
    go_enter Tryd.func11, Tryd.ntmps11
    go_upto_region 1 with fail
    refine wp_at HW.out.symm ?_
    rw [← HS.out]
    clear HW
    go_upto_region 10 with (first
      | (go_at_call 25; (with_reducible refine (HHAS.out _).mono ?_); rintro x w2 ⟨rfl, rfl⟩)
      | (go_at_call 26; (with_reducible refine (inT.out _).mono ?_); rintro x w2 ⟨rfl, rfl⟩)
      | (go_at_call 26; (with_reducible refine (inC.out _).mono ?_); rintro x w2 ⟨rfl, rfl⟩)
      | (go_at_call 26; (with_reducible refine (inB.out _).mono ?_); rintro x w2 ⟨rfl, rfl⟩)
      | (go_at_call 30; (with_reducible refine (HKI.out _).mono ?_); rintro x w2 ⟨rfl, hnq⟩; rw [HKT.out]; have d0 : w2.cell? ⟨S, 0, none⟩ = some (.int .i64 7) := (by obtain ⟨m, rfl⟩ := hnq; exact c0); have d2 : w2.cell? ⟨S, 2, none⟩ = some (.string bs) := (by obtain ⟨m, rfl⟩ := hnq; exact c2); have HBW : Hid (Below w.heap.size w w2) := Lib.hid (by obtain ⟨m, rfl⟩ := hnq; exact below_drewN HB.out m); clear hnq)
      | ((with_reducible refine step_load_w (t := 23) (x := .tmp 22) (p := ?lpk18) (v := ?lvk18) ?lgk18 ?lok18 ?lxk18 ?lrk18 ?lhk18); (case lok18 => rfl); (case lgk18 => rfl); (case lxk18 => rfl); (case lrk18 => exact hl))
      | ((with_reducible refine step_neq_w (t := 23) (x := .tmp 23) (y := .tmp 24) (t2 := ?nbk18) (u := ?nuk18) (v := ?nvk18) (r := ?nrk18) ?nwk18 ?nok18 ?nxk18 ?nyk18 ?ngk18 ?nqk18 ?nhk18); (case nok18 => rfl); (case nwk18 => rfl); (case nxk18 => rfl); (case nyk18 => rfl); (case ngk18 => exact HGD.out _); (case nqk18 => exact hne.out _)))
    go_quiet (first | (go_at_call 26; exact quiet_left ((inB.out _).mono fun _ _ ⟨he, hw⟩ => ⟨he, hw⟩)) | (go_at_call 31; exact quiet_left ((HMOST.out _).mono fun _ _ ⟨he, hw⟩ => ⟨he, hw⟩)))
    go_wp2_with fail
    go_ret
    exact ⟨by rw [HE.out]; rfl, by first | exact HBW.out | exact below_drewN HBW.out _ | exact HB.out | exact below_drewN HB.out _⟩
  · have pE : p.toList.isEmpty = true := by rw [hp]; unfold hasB hasL; rw [hkk]; decide +kernel
    have HE : Hid (checkE e = 10) := Lib.hid (by rw [HCK.out, if_pos hkk])
    clear hkk hp
    go_enter Tryd.func11, Tryd.ntmps11
    go_upto_region 1 with fail
    refine wp_at HW.out.symm ?_
    rw [← HS.out]
    clear HW
    go_wp2_with (go_at_call 25; (with_reducible refine (HHAS.out _).mono ?_); rintro x w2 ⟨rfl, rfl⟩)
    go_ret
    exact ⟨by rw [HE.out]; rfl, by first | exact HB.out | exact below_drewN HB.out _⟩
end Go.Proofs.YtbhkegdohiekfaaDoor.ent
