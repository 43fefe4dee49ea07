/-
  The landed vault: Crash, Snap, Die; vt_is.
  The landed vault: Snap; vt_is.
-/
import Derived.Test.YtkbbeioednhefaaGreatDoorVbf
namespace Go.Proofs.YtkbbeioednhefaaGreatDoor.vt
open Go.RowKit Go.Proofs.YtkbbeioednhefaaGreatDoor.mem Go.Proofs.YtkbbeioednhefaaGreatDoor.sha Go.Proofs.YtkbbeioednhefaaGreatDoor.strx Go.Proofs.YtkbbeioednhefaaGreatDoor.rows Go.Proofs.YtkbbeioednhefaaGreatDoor.ids Go.Proofs.YtkbbeioednhefaaGreatDoor.rcd Go.Proofs.YtkbbeioednhefaaGreatDoor.jn Go.Proofs.YtkbbeioednhefaaGreatDoor.txl

section
variable {G : Nat → Prop} {w : World} {g : Nat} {v : Vt} {pc po bc bo : Value} {A B : Nat → Prop}
theorem files_str (h : VtOf G w g v pc po bc bo A B) (hT : crc.Tab w) (ta tb : ByteArray) (ha : ta = bt v.a.s) (hb : tb = bt v.b.s) : Calls Tryz.prog 34 #[.pointer (some ⟨g, 0, none⟩)] w fun e w' => e = .returned (.tuple #[.string ta, .string tb]) ∧ Below w.heap.size w w' := by
  rw [ha, hb]
  exact vfiles_any hT h
theorem again_str (h : VtOf G w g v pc po bc bo A B) (hn : New G w) (hT : crc.Tab w) (hk : 0 ≤ numV (openJ v.cur.s).l) (hs : smallV v) (ta tb : ByteArray) (ha : ta = bt v.a.s) (hb : tb = bt v.b.s) (w4 : World) (hb4 : Below w.heap.size w w4) :
    Calls Tryz.prog 33 #[.pointer (some ⟨g, 0, none⟩), .slice (some ⟨w4.heap.size, 0, none⟩) 2 2] (w4.alloc (.cells #[.string ta, .string tb] 9)) fun e w' =>
      ∃ m, e = .returned (.tuple #[m, .int .i64 0]) ∧ Left VtL G w (.pointer (some ⟨g, 0, none⟩)) (againV v).1 m (againV v).2 w' := by
  rw [ha, hb]
  exact again_call h hn hT hk hs w4 hb4
theorem left_of {w' w2 : World} {p l : Value} {L : List (List UInt8)} {v' : Vt} (ht : Turn G w w2) (h : Left VtL G w2 p v' l L w') : Left VtL G w p v' l L w' := by
  obtain ⟨G', h1, h2, h3, h4, h5⟩ := h
  exact ⟨G', h1, h2, h3, h4, ht.trans h5⟩
theorem tab_G (h : VtOf G w g v pc po bc bo A B) (hT : crc.Tab w) {w' : World} (ht : Turn (fun k => A k ∨ w.heap.size ≤ k) w w') (h0 : ¬ A 0) : crc.Tab w' :=
  rcd.tab_turn hT ht fun hh => hh.elim h0 fun e => by have := hT.1; omega
set_option maxHeartbeats 8000000 in
set_option maxRecDepth 100000 in
theorem vcrash_any (n : Int) (hT : crc.Tab w) (hn : New G w) (h : VtOf G w g v pc po bc bo A B) (hs : smallV v) (h0 : ¬ A 0) : Calls Tryz.prog 13 #[.pointer (some ⟨g, 0, none⟩), .int .i64 n] w fun e w' => ∃ l, e = .returned l ∧ Left VtL G w (.pointer (some ⟨g, 0, none⟩)) (crashV v n).1 l (crashV v n).2 w' := by
  have HM := Lib.hid (vmade_ok g w h.blk.c0)
  have HS := Lib.hid fun u (hb : Below w.heap.size w u) => jn_a.crash _ pc bc v.cur n u (h.tab hT hb) (newA_next hb) (h.jn_next hb) hs.cur
  have HK := Lib.hid fun u (ht : Turn (fun k => A k ∨ w.heap.size ≤ k) w u) i => h.cell_a ht i
  have hc := h.curc
  have HD := Lib.hid (below_drew w)
  have hlc := crashJ_len v.cur n h.s.c.wf
  have hsm : smallV (v.set (crashJ v.cur n)) := set_len hs (Nat.le_trans hlc hs.cur)
  have hop := h.s.crash n
  have hsn := h.s.crashed n
  rw [show crashV v n = againV (v.set (crashJ v.cur n)) from rfl]
  have HF := Lib.hid fun u F j (hj : JnL F u pc bc j) (hF : ∀ k, F k → A k ∨ w.heap.size ≤ k) ht hs => h.cur hn hj hF ht hs
  have HG := Lib.hid fun u ht => h.turnA (w' := u) hn ht
  have HT := Lib.hid fun u (ht : Turn (fun k => A k ∨ w.heap.size ≤ k) w u) => tab_G h hT ht h0
  obtain ⟨J, hJ⟩ : ∃ J, J = crashJ v.cur n := ⟨_, rfl⟩
  rw [← hJ] at HS hsm hop hsn ⊢
  obtain ⟨v1, hv1⟩ : ∃ x, x = v.set J := ⟨_, rfl⟩
  have HV1 := Lib.hid hv1
  rw [← hv1] at hsm hop hsn ⊢
  obtain ⟨ta, hta⟩ : ∃ t, t = bt v1.a.s := ⟨_, rfl⟩
  obtain ⟨tb, htb⟩ : ∃ t, t = bt v1.b.s := ⟨_, rfl⟩
  have HFI := Lib.hid fun u A' B' (hv : VtOf G u g v1 pc po bc bo A' B') (hT : crc.Tab u) => files_str hv hT ta tb hta htb
  have HAG := Lib.hid fun u A' B' (hv : VtOf G u g v1 pc po bc bo A' B') (hT : crc.Tab u) (hn : New G u) w4 hb4 => again_str hv hn hT hop hsm ta tb hta htb w4 hb4
  have HSN := Lib.hid hsn
  have HN := Lib.hid hn
  clear h hT hn h0 hs hlc hsm hop hsn hJ hv1 hta htb
  rcases hc with ⟨-, c3, c1⟩ | ⟨-, c3, c1⟩
  all_goals
    have H3 := Lib.hid c3
    have H1 := Lib.hid c1
    go_enter Tryz.func13, Tryz.ntmps13
    go_wp2_with (go_at_call 28; (with_reducible refine HM.out.mono ?_); rintro e w1 ⟨rfl, rfl⟩)
  · go_region_held3 (fun w' => w'.cell? ⟨g, 3, none⟩ = some (.int .i64 0) ∧ w'.cell? ⟨g, 1, none⟩ = some pc)
      (first | exact ⟨c3, c1⟩ | exact ⟨(HK.out _ HT3.out 3).trans H3.out, (HK.out _ HT3.out 1).trans H1.out⟩)
      (first
        | (go_at_call 32; (with_reducible refine (HS.out _ HD.out).mono ?_); rintro e w3 ⟨vl, G', rfl, hj3, hn3, hg3, ho3, ht3⟩; have HJ3 := Lib.hid hj3; have HG3 := Lib.hid hg3; have HT3 := Lib.hid ((turnA_next HD.out).trans ht3); clear hj3 hn3 hg3 ho3 ht3))
    have hv3 := HF.out _ _ _ HJ3.out HG3.out HT3.out (by rw [← HV1.out]; exact HSN.out)
    rw [← HV1.out] at hv3
    have hT3 := HT.out _ HT3.out
    have hGT := HG.out _ HT3.out
    have HFX := Lib.hid (HFI.out _ _ _ hv3 hT3)
    have HAX := Lib.hid fun w4 hb4 => HAG.out _ _ _ hv3 hT3 (HN.out.turn hGT) w4 hb4
    have HGT := Lib.hid hGT
    clear hv3 hT3 hGT HF HG HFI HAG HS HK H3 H1 c3 c1
    go_wp2_with (first
      | (go_at_call 34; (with_reducible refine (HFX.out).mono ?_); rintro e w4 ⟨rfl, hb4⟩; have HB4 := Lib.hid hb4; clear hb4)
      | (go_at_call 33; (with_reducible refine (HAX.out _ HB4.out).mono ?_); rintro e w5 ⟨m, rfl, hl5⟩; have HL5 := Lib.hid hl5; clear hl5))
    go_ret
    exact ⟨_, rfl, left_of HGT.out HL5.out⟩
  · go_region_held3 (fun w' => w'.cell? ⟨g, 3, none⟩ = some (.int .i64 1) ∧ w'.cell? ⟨g, 2, none⟩ = some pc)
      (first | exact ⟨c3, c1⟩ | exact ⟨(HK.out _ HT3.out 3).trans H3.out, (HK.out _ HT3.out 2).trans H1.out⟩)
      (first
        | (go_at_call 32; (with_reducible refine (HS.out _ HD.out).mono ?_); rintro e w3 ⟨vl, G', rfl, hj3, hn3, hg3, ho3, ht3⟩; have HJ3 := Lib.hid hj3; have HG3 := Lib.hid hg3; have HT3 := Lib.hid ((turnA_next HD.out).trans ht3); clear hj3 hn3 hg3 ho3 ht3))
    have hv3 := HF.out _ _ _ HJ3.out HG3.out HT3.out (by rw [← HV1.out]; exact HSN.out)
    rw [← HV1.out] at hv3
    have hT3 := HT.out _ HT3.out
    have hGT := HG.out _ HT3.out
    have HFX := Lib.hid (HFI.out _ _ _ hv3 hT3)
    have HAX := Lib.hid fun w4 hb4 => HAG.out _ _ _ hv3 hT3 (HN.out.turn hGT) w4 hb4
    have HGT := Lib.hid hGT
    clear hv3 hT3 hGT HF HG HFI HAG HS HK H3 H1 c3 c1
    go_wp2_with (first
      | (go_at_call 34; (with_reducible refine (HFX.out).mono ?_); rintro e w4 ⟨rfl, hb4⟩; have HB4 := Lib.hid hb4; clear hb4)
      | (go_at_call 33; (with_reducible refine (HAX.out _ HB4.out).mono ?_); rintro e w5 ⟨m, rfl, hl5⟩; have HL5 := Lib.hid hl5; clear hl5))
    go_ret
    exact ⟨_, rfl, left_of HGT.out HL5.out⟩
/-- what lay leaves where it goes wrong -/
theorem big_of (h : VtOf G w g v pc po bc bo A B) (hn : New G w) {w' : World} (hb : Below w.heap.size w w') : VtL G w' (.pointer (some ⟨g, 0, none⟩)) v ∧ Turn G w w' :=
  ⟨⟨g, pc, po, bc, bo, A, B, rfl, h.next hb⟩, Turn.fresh hb hn⟩
/-- the cells that tell the other file -/
def OthC (u : World) (g : Nat) (po : Value) (x : Int) : Prop := (x = 0 ∧ u.cell? ⟨g, 3, none⟩ = some (.int .i64 0) ∧ u.cell? ⟨g, 2, none⟩ = some po) ∨ (x = 1 ∧ u.cell? ⟨g, 3, none⟩ = some (.int .i64 1) ∧ u.cell? ⟨g, 1, none⟩ = some po)
theorem VtOf.othc (h : VtOf G w g v pc po bc bo A B) : OthC w g po v.use := by
  have c1 := h.blk.c1
  have c2 := h.blk.c2
  have c3 := h.blk.c3
  rcases h.s.use with e | e
  · rw [e, if_pos rfl] at c2
    rw [e] at c3
    exact .inl ⟨e, c3, c2⟩
  · rw [e, if_neg (by decide)] at c1
    rw [e] at c3
    exact .inr ⟨e, c3, c1⟩
theorem VtOf.cell_b (h : VtOf G w g v pc po bc bo A B) {u : World} (ht : Turn (fun k => B k ∨ w.heap.size ≤ k) w u) (i : Nat) : u.cell? ⟨g, i, none⟩ = w.cell? ⟨g, i, none⟩ :=
  ht.cell (b := g) (i := i) fun hh => hh.elim (fun x => (h.b g x).2.1 rfl) fun x => absurd h.lt (Nat.not_lt.2 x)
theorem VtOf.jo_next (h : VtOf G w g v pc po bc bo A B) {u : World} (hb : Below w.heap.size w u) : JnL (fun k => B k ∨ w.heap.size ≤ k) u po bo v.othr :=
  jn_a.mono (jn_a.turn h.o (Turn.ofBelow hb) fun _ hk _ => Nat.not_le.2 hk) fun _ => .inl
set_option maxHeartbeats 8000000 in
set_option maxRecDepth 100000 in
theorem vdie_any (n : Int) (hT : crc.Tab w) (hn : New G w) (h : VtOf G w g v pc po bc bo A B) (hs : smallV v) (h0 : ¬ G 0) (lv : Value) (L : List (List UInt8)) (N : Nat → Prop) (hl : TxA w N lv L) (hL : smallL L) : Calls Tryz.prog 17 #[.pointer (some ⟨g, 0, none⟩), lv, .int .i64 n] w fun e w' =>
    ∃ m, e = .returned (.tuple #[m, .int .i64 (dieV v L n).2.2]) ∧ Left VtL G w (.pointer (some ⟨g, 0, none⟩)) (dieV v L n).1 m (dieV v L n).2.1 w' := by
  by_cases hno : 2147483647 ≤ v.no
  · have hE := layE_big hno L
    have hd : dieV v L n = (v, [], 3) := by
      unfold dieV
      rw [if_pos (by rw [hE]; decide), hE]
    rw [hd]
    have HL := Lib.hid (vlay_big h hno lv)
    have HB := Lib.hid fun w' (hb : Below w.heap.size w w') => big_of h hn hb
    have HN := Lib.hid hn
    clear hT hn h hs h0 hl hL hno hE hd
    go_enter Tryz.func17, Tryz.ntmps17
    go_wp2_with (go_at_call 37; (with_reducible refine (HL.out).mono ?_); rintro e w2 ⟨rfl, hb2⟩; skip)
    obtain ⟨h1, h2⟩ := HB.out _ hb2
    refine bodyPost_ret (results_tmp2 rfl _ _ _) rfl ⟨_, rfl, G, h1, HN.out.of hb2.size, fun _ => id, TxA.nil _ _, h2⟩
  have hno : v.no < 2147483647 := by omega
  have hE := layE_ok hno hL
  have hd : dieV v L n = ((againV ((syncV v).1.oth (crashJ (layJ v.no L) n))).1, (againV ((syncV v).1.oth (crashJ (layJ v.no L) n))).2, 0) := by
    unfold dieV
    rw [if_neg (by rw [hE]; exact fun h => h rfl)]
  rw [hd]
  have HL := Lib.hid (vlay_any hT hn h hno N lv L hl hL)
  have hlen := lay_len v.no L hL
  have hwf := (lay_v v.no L fun s hs => Nat.le_trans (hL.2 s hs) (by decide)).wf
  have hcl := crashJ_len (layJ v.no L) n hwf
  have hcs := h.s.sync
  have hs1 : smallV (syncV v).1 := set_len hs (by show v.cur.s.length ≤ _; exact hs.cur)
  obtain ⟨v1, hv1⟩ : ∃ x, x = (syncV v).1 := ⟨_, rfl⟩
  rw [← hv1] at HL hcs hs1 ⊢
  have hsm : smallV (v1.oth (crashJ (layJ v.no L) n)) := oth_len hs1 (by omega)
  have hop : 0 ≤ numV (openJ (v1.oth (crashJ (layJ v.no L) n)).cur.s).l := by rw [cur_oth]; exact hcs.opened
  have hsn : Snd (v1.oth (crashJ (layJ v.no L) n)) := hcs.oth (FileV.crash n)
  obtain ⟨J, hJ⟩ : ∃ J, J = layJ v.no L := ⟨_, rfl⟩
  rw [← hJ] at HL hlen hsm hop hsn ⊢
  have hv2 : (v1.oth J).oth (crashJ J n) = v1.oth (crashJ J n) := oth_oth _ _ _
  rw [← hv2] at hsm hop hsn ⊢
  obtain ⟨v2, hv2e⟩ : ∃ x, x = v1.oth J := ⟨_, rfl⟩
  have ho2 : v2.othr = J := by rw [hv2e, othr_oth]
  have hu2 : v2.use = 0 ∨ v2.use = 1 := by rw [hv2e, use_oth]; exact hcs.use
  rw [← hv2e] at HL hsm hop hsn ⊢
  have HS := Lib.hid fun u p b (A B : Nat → Prop) u' (h2 : VtOf G u g v2 pc p bc b A B) (hb : Below u.heap.size u u') (hT : crc.Tab u) => (show Calls Tryz.prog 32 #[p, .int .i64 n] u' _ from jn_a.crash (fun k => B k ∨ u.heap.size ≤ k) p b J n u' (jn_a.next hT hb) (newA_next hb) (ho2 ▸ h2.jo_next hb) (by omega))
  obtain ⟨J2, hJ2⟩ : ∃ x, x = crashJ J n := ⟨_, rfl⟩
  rw [← hJ2] at HS hsm hop hsn ⊢
  obtain ⟨v3, hv3⟩ : ∃ x, x = v2.oth J2 := ⟨_, rfl⟩
  rw [← hv3] at hsm hop hsn ⊢
  obtain ⟨ta, hta⟩ : ∃ t, t = bt v3.a.s := ⟨_, rfl⟩
  obtain ⟨tb, htb⟩ : ∃ t, t = bt v3.b.s := ⟨_, rfl⟩
  have HFI := Lib.hid fun u p b A' B' (hv : VtOf G u g v3 pc p bc b A' B') (hT : crc.Tab u) => files_str hv hT ta tb hta htb
  have HAG := Lib.hid fun u p b A' B' (hv : VtOf G u g v3 pc p bc b A' B') (hT : crc.Tab u) (hn : New G u) w4 hb4 => again_str hv hn hT hop hsm ta tb hta htb w4 hb4
  have HSN := Lib.hid hsn
  have HN := Lib.hid hn
  have HV3 := Lib.hid hv3
  have HTG := Lib.hid fun u (ht : Turn G w u) => rcd.tab_turn hT ht h0
  have HU2 := Lib.hid hu2
  have HVO := Lib.hid fun (g : Nat) (x : Int) u (hx : x = 0 ∨ x = 1) (h3 : u.cell? ⟨g, 3, none⟩ = some (.int .i64 x)) => vother_any g x u h3 hx
  clear hT hn h hs h0 hl hL hno hE hd hlen hwf hcl hcs hs1 hv1 hJ hv2 hsm hop hsn hv2e ho2 hu2 hJ2 hv3 hta htb
  go_enter Tryz.func17, Tryz.ntmps17
  go_upto_region 4 with (go_at_call 37; (with_reducible refine (HL.out).mono ?_); rintro e w2 ⟨rfl, ⟨p, b, A', B', hv2⟩, ht2⟩; have HV2 := Lib.hid hv2; have HT2 := Lib.hid ht2; clear hv2 ht2)
  have HD := Lib.hid (below_drew w2)
  have hT2 := HTG.out _ HT2.out
  have HS2 := Lib.hid fun u' (hb : Below w2.heap.size w2 u') => HS.out _ _ _ _ _ u' HV2.out hb hT2
  have HK := Lib.hid fun u (ht : Turn (fun k => B' k ∨ w2.heap.size ≤ k) w2 u) i => HV2.out.cell_b ht i
  have hc := HV2.out.othc
  clear HS hT2
  rcases hc with ⟨-, c3, c1⟩ | ⟨-, c3, c1⟩
  · have H3 := Lib.hid c3
    have H1 := Lib.hid c1
    have HO1 := Lib.hid (HVO.out g 0 w2.drew (.inl rfl) ((HK.out _ (turnA_next HD.out) 3).trans c3))
    go_region_held3 (fun w' => w'.cell? ⟨g, 3, none⟩ = some (.int .i64 0) ∧ w'.cell? ⟨g, 2, none⟩ = some p)
      (first | exact ⟨c3, c1⟩ | exact ⟨(HK.out _ HT3.out 3).trans H3.out, (HK.out _ HT3.out 2).trans H1.out⟩ | exact ⟨(HK.out _ (turnA_next HD.out) 3).trans H3.out, (HK.out _ (turnA_next HD.out) 2).trans H1.out⟩)
      (first
        | (go_at_call 38; (with_reducible refine (HO1.out).mono ?_); rintro e w4 ⟨rfl, rfl⟩; skip)
        | (go_at_call 32; (with_reducible refine (HS2.out _ HD.out).mono ?_); rintro e w3 ⟨vl, G', rfl, hj3, hn3, hg3, ho3, ht3⟩; have HJ3 := Lib.hid hj3; have HG3 := Lib.hid hg3; have HT3 := Lib.hid ((turnA_next HD.out).trans ht3); clear hj3 hn3 hg3 ho3 ht3))
    have hv3 := HV2.out.oth (HN.out.turn HT2.out) HJ3.out HG3.out HT3.out (by rw [← HV3.out]; exact HSN.out)
    rw [← HV3.out] at hv3
    have hGT := HT2.out.trans (HV2.out.turnB (HN.out.turn HT2.out) HT3.out)
    have hT3 := HTG.out _ hGT
    have HFX := Lib.hid (HFI.out _ _ _ _ _ hv3 hT3)
    have HAX := Lib.hid fun w4 hb4 => HAG.out _ _ _ _ _ hv3 hT3 (HN.out.turn hGT) w4 hb4
    have HGT := Lib.hid hGT
    clear hv3 hT3 hGT HFI HAG HS2 HK H3 H1 c3 c1 HO1
    go_wp2_with (first
      | (go_at_call 34; (with_reducible refine (HFX.out).mono ?_); rintro e w4 ⟨rfl, hb4⟩; have HB4 := Lib.hid hb4; clear hb4)
      | (go_at_call 33; (with_reducible refine (HAX.out _ HB4.out).mono ?_); rintro e w5 ⟨m, rfl, hl5⟩; have HL5 := Lib.hid hl5; clear hl5))
    refine bodyPost_ret (results_tmp2 rfl _ _ _) rfl ⟨_, rfl, left_of HGT.out HL5.out⟩
  · have H3 := Lib.hid c3
    have H1 := Lib.hid c1
    have HO1 := Lib.hid (HVO.out g 1 w2.drew (.inr rfl) ((HK.out _ (turnA_next HD.out) 3).trans c3))
    go_region_held3 (fun w' => w'.cell? ⟨g, 3, none⟩ = some (.int .i64 1) ∧ w'.cell? ⟨g, 1, none⟩ = some p)
      (first | exact ⟨c3, c1⟩ | exact ⟨(HK.out _ HT3.out 3).trans H3.out, (HK.out _ HT3.out 1).trans H1.out⟩ | exact ⟨(HK.out _ (turnA_next HD.out) 3).trans H3.out, (HK.out _ (turnA_next HD.out) 1).trans H1.out⟩)
      (first
        | (go_at_call 38; (with_reducible refine (HO1.out).mono ?_); rintro e w4 ⟨rfl, rfl⟩; skip)
        | (go_at_call 32; (with_reducible refine (HS2.out _ HD.out).mono ?_); rintro e w3 ⟨vl, G', rfl, hj3, hn3, hg3, ho3, ht3⟩; have HJ3 := Lib.hid hj3; have HG3 := Lib.hid hg3; have HT3 := Lib.hid ((turnA_next HD.out).trans ht3); clear hj3 hn3 hg3 ho3 ht3))
    have hv3 := HV2.out.oth (HN.out.turn HT2.out) HJ3.out HG3.out HT3.out (by rw [← HV3.out]; exact HSN.out)
    rw [← HV3.out] at hv3
    have hGT := HT2.out.trans (HV2.out.turnB (HN.out.turn HT2.out) HT3.out)
    have hT3 := HTG.out _ hGT
    have HFX := Lib.hid (HFI.out _ _ _ _ _ hv3 hT3)
    have HAX := Lib.hid fun w4 hb4 => HAG.out _ _ _ _ _ hv3 hT3 (HN.out.turn hGT) w4 hb4
    have HGT := Lib.hid hGT
    clear hv3 hT3 hGT HFI HAG HS2 HK H3 H1 c3 c1 HO1
    go_wp2_with (first
      | (go_at_call 34; (with_reducible refine (HFX.out).mono ?_); rintro e w4 ⟨rfl, hb4⟩; have HB4 := Lib.hid hb4; clear hb4)
      | (go_at_call 33; (with_reducible refine (HAX.out _ HB4.out).mono ?_); rintro e w5 ⟨m, rfl, hl5⟩; have HL5 := Lib.hid hl5; clear hl5))
    refine bodyPost_ret (results_tmp2 rfl _ _ _) rfl ⟨_, rfl, left_of HGT.out HL5.out⟩
end
end Go.Proofs.YtkbbeioednhefaaGreatDoor.vt

namespace Go.Proofs.YtkbbeioednhefaaGreatDoor.vt
open Go.RowKit Go.Proofs.YtkbbeioednhefaaGreatDoor.mem Go.Proofs.YtkbbeioednhefaaGreatDoor.sha Go.Proofs.YtkbbeioednhefaaGreatDoor.strx Go.Proofs.YtkbbeioednhefaaGreatDoor.rows Go.Proofs.YtkbbeioednhefaaGreatDoor.ids Go.Proofs.YtkbbeioednhefaaGreatDoor.rcd Go.Proofs.YtkbbeioednhefaaGreatDoor.jn Go.Proofs.YtkbbeioednhefaaGreatDoor.txl

section
variable {G : Nat → Prop} {w : World} {g : Nat} {v : Vt} {pc po bc bo : Value} {A B : Nat → Prop}
/-- the two files in each other's place -/
theorem VtOf.swap {v1 v' : Vt} {J : Jr} {n : Int} {p b : Value} {w3 w4 : World} {F : Nat → Prop} (h : VtOf G w g v1 pc p bc b A B) (hF : ∀ k, F k → B k ∨ w.heap.size ≤ k) (hn : New G w)
    (ht3 : Turn (· = g) w w3) (hb3 : VBlk w3 g (.pointer (some ⟨g, 0, none⟩)) (if v1.use = 0 then pc else p) (if v1.use = 0 then p else pc) (1 - v1.use) n) (ht4 : Turn F w3 w4) (hj : JnL F w4 p b J) (hv : v' = snapped v1 J (1 - v1.use) n) (hs : Snd v') : VtL G w4 (.pointer (some ⟨g, 0, none⟩)) v' ∧ Turn G w w4 := by
  have hgl := h.lt
  have hz3 := ht3.size
  have hz4 := ht4.size
  have hFg : ¬ F g := fun hf => (hF g hf).elim (fun x => (h.b g x).2.1 rfl) fun e => by omega
  have hc := snap_cur (v := v1) (j := J) (n := n) h.s.use
  rw [← hv] at hc
  have hvu : v'.use = 1 - v1.use := by rw [hv]; rfl
  have hvn : v'.no = n := by rw [hv]; rfl
  have hFG : ∀ k, F k → G k := fun k hf => (hF k hf).elim (fun x => (h.b k x).1) (hn k)
  refine ⟨⟨g, p, pc, b, bc, fun k => F k ∧ k < w4.heap.size, A, rfl, ⟨?_, by rw [hc.1]; exact jn_a.cap hj, ?_, fun k hk => ⟨hFG k hk.1, fun e => hFg (e ▸ hk.1), hk.2⟩, fun k hk => ⟨(h.a k hk).1, (h.a k hk).2.1, Nat.lt_of_lt_of_le (h.a k hk).2.2 (by omega)⟩, fun k hk ha => (hF k hk.1).elim (fun x => h.ab k ha x) fun e => by have := (h.a k ha).2.2; omega, h.g, hs⟩⟩, (ht3.mono fun k hk => hk ▸ h.g.1).trans (ht4.mono hFG)⟩
  · have hb4 := Blk.turn hb3 ht4 hFg
    rw [hvu, hvn]
    rcases h.s.use with e | e
    · rw [e] at hb4 ⊢
      rw [if_pos rfl, if_pos rfl] at hb4
      rw [if_neg (by decide), if_neg (by decide)]
      exact hb4
    · rw [e] at hb4 ⊢
      rw [if_neg (by decide), if_neg (by decide)] at hb4
      rw [if_pos (by decide), if_pos (by decide)]
      exact hb4
  · rw [hc.2]
    exact jn_a.turn (jn_a.turn h.c ht3 fun k _ ha e => (h.a k ha).2.1 e) ht4 fun k _ ha hf => (hF k hf).elim (fun x => h.ab k ha x) fun e => by have := (h.a k ha).2.2; omega
set_option maxHeartbeats 8000000 in
set_option maxRecDepth 100000 in
theorem vsnap_any (hT : crc.Tab w) (hn : New G w) (h : VtOf G w g v pc po bc bo A B) (hs : smallV v) (h0 : ¬ G 0) (lv : Value) (L : List (List UInt8)) (N : Nat → Prop) (hl : TxA w N lv L) (hL : smallL L) : Calls Tryz.prog 15 #[.pointer (some ⟨g, 0, none⟩), lv] w fun e w' =>
    e = .returned (.int .i64 (snapV v L).2) ∧ VtL G w' (.pointer (some ⟨g, 0, none⟩)) (snapV v L).1 ∧ Turn G w w' := by
  by_cases hno : 2147483647 ≤ v.no
  · have hE := layE_big hno L
    have hd : snapV v L = (v, 3) := by
      unfold snapV
      rw [if_pos (by rw [hE]; decide), hE]
    rw [hd]
    have HL := Lib.hid (vlay_big h hno lv)
    have HB := Lib.hid fun w' (hb : Below w.heap.size w w') => big_of h hn hb
    clear hT hn h hs h0 hl hL hno hE hd
    go_enter Tryz.func15, Tryz.ntmps15
    go_wp2_with (go_at_call 37; (with_reducible refine (HL.out).mono ?_); rintro e w2 ⟨rfl, hb2⟩; skip)
    obtain ⟨h1, h2⟩ := HB.out _ hb2
    go_ret
    exact ⟨rfl, h1, h2⟩
  have hno : v.no < 2147483647 := by omega
  have hE := layE_ok hno hL
  rw [snapV_ok hE]
  have HSN := Lib.hid (h.s.snap hno hL)
  have HL := Lib.hid (vlay_any hT hn h hno N lv L hl hL)
  have hu1 : (syncV v).1.use = v.use := use_set _ _
  have hn1 : (syncV v).1.no = v.no := no_set _ _
  have hnn := h.s.no
  obtain ⟨v1, hv1⟩ : ∃ x, x = (syncV v).1 := ⟨_, rfl⟩
  obtain ⟨J, hJ⟩ : ∃ J, J = layJ v.no L := ⟨_, rfl⟩
  rw [← hv1] at HL HSN hu1 hn1 ⊢
  rw [← hJ] at HL HSN ⊢
  obtain ⟨v2, hv2⟩ : ∃ x, x = v1.oth J := ⟨_, rfl⟩
  have hu2 : v2.use = v.use := by rw [hv2, use_oth, hu1]
  have hn2 : v2.no = v.no := by rw [hv2, no_oth, hn1]
  have ho2 : v2.othr = J := by rw [hv2, othr_oth]
  have hsp : ∀ j u n, snapped v1 j u n = snapped v2 j u n := fun j u n => by unfold snapped; rw [hv2, oth_oth]
  rw [hsp] at HSN ⊢
  rw [← hv2] at HL
  obtain ⟨q, hq⟩ : ∃ q, q = v.no := ⟨_, rfl⟩
  rw [← hq] at HSN hn2 hno hnn ⊢
  rw [← hu2] at HSN ⊢
  have wq : IntKind.i64.wrap (q + 1) = q + 1 := by rw [IntKind.wrap_i64]; omega
  obtain ⟨vz, hvz⟩ : ∃ x, x = snapped v2 (syncJ J).1 (1 - v2.use) (q + 1) := ⟨_, rfl⟩
  rw [← hvz] at HSN ⊢
  have HVZ := Lib.hid hvz
  have HN := Lib.hid hn
  have HTG := Lib.hid fun u (ht : Turn G w u) => rcd.tab_turn hT ht h0
  have HO2 := Lib.hid (And.intro ho2 hn2)
  have HVO := Lib.hid fun (g : Nat) (x : Int) u (hx : x = 0 ∨ x = 1) (h3 : u.cell? ⟨g, 3, none⟩ = some (.int .i64 x)) => vother_any g x u h3 hx
  clear hT hn h hs h0 hl hL hno hE hu1 hn1 hnn hv1 hJ hv2 hu2 hn2 ho2 hsp hq hvz
  go_enter Tryz.func15, Tryz.ntmps15
  go_upto_region 4 with (go_at_call 37; (with_reducible refine (HL.out).mono ?_); rintro e w2 ⟨rfl, ⟨p, b, A', B', hv2⟩, ht2⟩; have HV2 := Lib.hid hv2; have HT2 := Lib.hid ht2; clear hv2 ht2)
  have HD := Lib.hid (below_drew w2)
  have hc := HV2.out.othc
  have c4 := HV2.out.blk.c4
  rw [HO2.out.2] at c4
  have f3 := Blk.frozen HV2.out.blk 3
  have f4 := Blk.frozen HV2.out.blk 4
  rcases hc with ⟨eu, c3, c1⟩ | ⟨eu, c3, c1⟩
  · have HO1 := Lib.hid (HVO.out g 0 w2.drew (.inl rfl) ((HD.out.cell (p := ⟨g, 3, none⟩) HV2.out.lt).trans c3))
    have HC1 := Lib.hid c1
    have HEU := Lib.hid eu
    clear c1 eu
    go_region_with (go_at_call 38; (with_reducible refine HO1.out.mono ?_); rintro e w4 ⟨rfl, rfl⟩)
    all_goals
      obtain ⟨w3, hw3⟩ : ∃ z, z = (w2.setCell ⟨g, 3, none⟩ (.int .i64 1)).setCell ⟨g, 4, none⟩ (.int .i64 (q + 1)) := ⟨_, rfl⟩
      have ht3 : Turn (· = g) w2 w3 := by rw [hw3]; exact ((Turn.refl (· = g) w2).setCell (p := ⟨g, 3, none⟩) rfl _).setCell (p := ⟨g, 4, none⟩) rfl _
      have hb3 := Blk.set_ (Blk.set_ HV2.out.blk 3 (.int .i64 1)) 4 (.int .i64 (q + 1))
      rw [← hw3] at hb3 ⊢
      clear hw3
      have hb3' : VBlk w3 g (.pointer (some ⟨g, 0, none⟩)) (if v2.use = 0 then pc else p) (if v2.use = 0 then p else pc) (1 - v2.use) (q + 1) := by rw [HEU.out] at hb3 ⊢; exact hb3
      have hb3d : VBlk w3.drew g (.pointer (some ⟨g, 0, none⟩)) (if v2.use = 0 then pc else p) (if v2.use = 0 then p else pc) (1 - v2.use) (q + 1) := hb3'
      have hTd : crc.Tab w3.drew := HTG.out _ (HT2.out.trans ((ht3.mono fun k hk => hk ▸ HV2.out.g.1).drewN 1))
      have hjd : JnL (fun k => B' k ∨ w2.heap.size ≤ k) w3.drew p b J := by
        have h1 := HV2.out.o
        rw [HO2.out.1] at h1
        exact jn_a.mono (jn_a.turn h1 (ht3.drewN 1) fun k _ hk e => (HV2.out.b k hk).2.1 e) fun _ => .inl
      have hFg : ¬ (B' g ∨ w2.heap.size ≤ g) := fun hh => hh.elim (fun x => (HV2.out.b g x).2.1 rfl) fun e => absurd HV2.out.lt (Nat.not_lt.2 e)
      have hcd : CurC w3.drew g p 1 := by
        have k1 := hb3d.c1
        have k2 := hb3d.c2
        have k3 := hb3d.c3
        rw [HEU.out] at k1 k2 k3
        exact .inr ⟨rfl, k3, k2⟩
      have HSR := Lib.hid (vsync_raw (fun k => B' k ∨ w2.heap.size ≤ k) J 1 hTd (fun k hk => .inr (Nat.le_trans ht3.size hk)) hb3d.c0 hcd hFg hjd)
      have HSW := Lib.hid fun w4 ht4 hj => HV2.out.swap (w4 := w4) (fun _ => id) (HN.out.turn HT2.out) (ht3.drewN 1) hb3d ht4 hj HVZ.out HSN.out
      clear hb3 hb3' hb3d hTd hjd hFg hcd ht3 HO1 c3 c4 f3 f4
      go_wp2_with (go_at_call 10; (with_reducible refine (HSR.out).mono ?_); rintro e w4 ⟨rfl, hj4, ht4⟩; have HS4 := Lib.hid (HSW.out _ ht4 hj4); clear hj4 ht4)
      go_ret
      exact ⟨rfl, HS4.out.1, HT2.out.trans HS4.out.2⟩
  · have HO1 := Lib.hid (HVO.out g 1 w2.drew (.inr rfl) ((HD.out.cell (p := ⟨g, 3, none⟩) HV2.out.lt).trans c3))
    have HC1 := Lib.hid c1
    have HEU := Lib.hid eu
    clear c1 eu
    go_region_with (go_at_call 38; (with_reducible refine HO1.out.mono ?_); rintro e w4 ⟨rfl, rfl⟩)
    all_goals
      obtain ⟨w3, hw3⟩ : ∃ z, z = (w2.setCell ⟨g, 3, none⟩ (.int .i64 0)).setCell ⟨g, 4, none⟩ (.int .i64 (q + 1)) := ⟨_, rfl⟩
      have ht3 : Turn (· = g) w2 w3 := by rw [hw3]; exact ((Turn.refl (· = g) w2).setCell (p := ⟨g, 3, none⟩) rfl _).setCell (p := ⟨g, 4, none⟩) rfl _
      have hb3 := Blk.set_ (Blk.set_ HV2.out.blk 3 (.int .i64 0)) 4 (.int .i64 (q + 1))
      rw [← hw3] at hb3 ⊢
      clear hw3
      have hb3' : VBlk w3 g (.pointer (some ⟨g, 0, none⟩)) (if v2.use = 0 then pc else p) (if v2.use = 0 then p else pc) (1 - v2.use) (q + 1) := by rw [HEU.out] at hb3 ⊢; exact hb3
      have hb3d : VBlk w3.drew g (.pointer (some ⟨g, 0, none⟩)) (if v2.use = 0 then pc else p) (if v2.use = 0 then p else pc) (1 - v2.use) (q + 1) := hb3'
      have hTd : crc.Tab w3.drew := HTG.out _ (HT2.out.trans ((ht3.mono fun k hk => hk ▸ HV2.out.g.1).drewN 1))
      have hjd : JnL (fun k => B' k ∨ w2.heap.size ≤ k) w3.drew p b J := by
        have h1 := HV2.out.o
        rw [HO2.out.1] at h1
        exact jn_a.mono (jn_a.turn h1 (ht3.drewN 1) fun k _ hk e => (HV2.out.b k hk).2.1 e) fun _ => .inl
      have hFg : ¬ (B' g ∨ w2.heap.size ≤ g) := fun hh => hh.elim (fun x => (HV2.out.b g x).2.1 rfl) fun e => absurd HV2.out.lt (Nat.not_lt.2 e)
      have hcd : CurC w3.drew g p 0 := by
        have k1 := hb3d.c1
        have k2 := hb3d.c2
        have k3 := hb3d.c3
        rw [HEU.out] at k1 k2 k3
        exact .inl ⟨rfl, k3, k1⟩
      have HSR := Lib.hid (vsync_raw (fun k => B' k ∨ w2.heap.size ≤ k) J 0 hTd (fun k hk => .inr (Nat.le_trans ht3.size hk)) hb3d.c0 hcd hFg hjd)
      have HSW := Lib.hid fun w4 ht4 hj => HV2.out.swap (w4 := w4) (fun _ => id) (HN.out.turn HT2.out) (ht3.drewN 1) hb3d ht4 hj HVZ.out HSN.out
      clear hb3 hb3' hb3d hTd hjd hFg hcd ht3 HO1 c3 c4 f3 f4
      go_wp2_with (go_at_call 10; (with_reducible refine (HSR.out).mono ?_); rintro e w4 ⟨rfl, hj4, ht4⟩; have HS4 := Lib.hid (HSW.out _ ht4 hj4); clear hj4 ht4)
      go_ret
      exact ⟨rfl, HS4.out.1, HT2.out.trans HS4.out.2⟩
end
/-- .. in blocks none of which is the table's -/
def VtV (G : Nat → Prop) (w : World) (p : Value) (v : Vt) : Prop := VtL (fun k => G k ∧ k ≠ 0) w p v
theorem new_v {G : Nat → Prop} {w : World} (hT : crc.Tab w) (hn : New G w) : New (fun k => G k ∧ k ≠ 0) w := fun k hk => ⟨hn k hk, by have := hT.1; omega⟩
theorem left_v {G : Nat → Prop} {w w' : World} {p l : Value} {v : Vt} {L : List (List UInt8)} (h : Left VtL (fun k => G k ∧ k ≠ 0) w p v l L w') : Left VtV G w p v l L w' := by
  obtain ⟨G', ⟨g, pc, po, bc, bo, A, B, hp, h1⟩, h2, h3, h4, h5⟩ := h
  exact ⟨G', ⟨g, pc, po, bc, bo, A, B, hp, h1.mono fun k hk => ⟨hk, (h3 k hk).2⟩⟩, h2, fun k hk => (h3 k hk).1, h4.mono fun k _ hk => ⟨hk.1.1, hk.2⟩, h5.mono fun k hk => hk.1⟩
theorem vt_is : VtIs crc.Tab VtV where
  next := jn_a.next
  wf := fun {G w p v} h => by
    obtain ⟨g, pc, po, bc, bo, A, B, hp, h⟩ := h
    exact h.s.wf
  cap := fun {G w p v} h => by
    obtain ⟨g, pc, po, bc, bo, A, B, rfl, h⟩ := h
    obtain ⟨g', pc, po, bc, bo, A, B, e, h⟩ := VtL.cap ⟨g, pc, po, bc, bo, A, B, rfl, h⟩
    exact ⟨g', pc, po, bc, bo, A, B, e, h.mono fun k hk => ⟨⟨hk.1.1, hk.2⟩, hk.1.2⟩⟩
  mono := fun {G H w p v} h hh => by
    obtain ⟨g, pc, po, bc, bo, A, B, rfl, h⟩ := h
    exact ⟨g, pc, po, bc, bo, A, B, rfl, h.mono fun k hk => ⟨hh k hk.1, hk.2⟩⟩
  turn := fun {G H w w' p v} h ht hd => by
    obtain ⟨g, pc, po, bc, bo, A, B, rfl, h⟩ := h
    exact ⟨g, pc, po, bc, bo, A, B, rfl, h.turn ht fun k hk hg => hd k hk hg.1⟩
  new := fun w hT => (vnew_any w hT).mono fun e w' ⟨p, he, ⟨g, pc, po, bc, bo, A, B, hp, h⟩, hb⟩ => ⟨p, he, ⟨g, pc, po, bc, bo, A, B, hp, h.mono fun k hk => ⟨hk, by have := hT.1; omega⟩⟩, hb⟩
  append := fun G p v t w hT hn h hs ht => by
    obtain ⟨g, pc, po, bc, bo, A, B, rfl, h⟩ := h
    exact (vappend_any t hT (new_v hT hn) h hs.cur ht).mono fun e w' ⟨he, ⟨A', h'⟩, htt⟩ => ⟨he, ⟨g, pc, po, bc, bo, A', B, rfl, h'⟩, htt.mono fun k hk => hk.1⟩
  sync := fun G p v w hT hn h hs => by
    obtain ⟨g, pc, po, bc, bo, A, B, rfl, h⟩ := h
    exact (vsync_any hT (new_v hT hn) h).mono fun e w' ⟨he, ⟨A', h', _⟩, htt⟩ => ⟨he, ⟨g, pc, po, bc, bo, A', B, rfl, h'⟩, (h.turnA (new_v hT hn) htt).mono fun k hk => hk.1⟩
  crash := fun G p v n w hT hn h hs => by
    obtain ⟨g, pc, po, bc, bo, A, B, rfl, h⟩ := h
    exact (vcrash_any n hT (new_v hT hn) h hs fun h0 => (h.a 0 h0).1.2 rfl).mono fun e w' ⟨l, he, hl⟩ => ⟨l, he, left_v hl⟩
  snap := fun G p v l L w hT hn h hs hl hL => by
    obtain ⟨g, pc, po, bc, bo, A, B, rfl, h⟩ := h
    exact (vsnap_any hT (new_v hT hn) h hs (fun h0 => h0.2 rfl) l L _ hl hL).mono fun e w' ⟨he, h', htt⟩ => ⟨he, h', htt.mono fun k hk => hk.1⟩
  die := fun G p v l L n w hT hn h hs hl hL => by
    obtain ⟨g, pc, po, bc, bo, A, B, rfl, h⟩ := h
    exact (vdie_any n hT (new_v hT hn) h hs (fun h0 => h0.2 rfl) l L _ hl hL).mono fun e w' ⟨m, he, hl⟩ => ⟨m, he, left_v hl⟩
  files := fun G p v w hT h => by
    obtain ⟨g, pc, po, bc, bo, A, B, rfl, h⟩ := h
    exact vfiles_any hT h
  load := fun s t w hT hs ht => by
    refine (vLoad_any s t (by omega) (by omega) w hT).mono ?_
    rintro e w' ⟨p, l, he, hb, hr⟩
    refine ⟨p, l, he, hb, ?_⟩
    rcases hr with hr | ⟨h1, pa, G', hp, hv, hn, hg, hl⟩
    · exact .inl hr
    · obtain ⟨g, pc, po, bc, bo, A, B, hp2, hv⟩ := hv
      exact .inr ⟨h1, pa, G', hp, ⟨g, pc, po, bc, bo, A, B, hp2, hv.mono fun k hk => ⟨hk, by have := hT.1; have := hg k hk; omega⟩⟩, hn, hg, hl⟩
  use := fun G p v w hT h => by
    obtain ⟨g, pc, po, bc, bo, A, B, rfl, h⟩ := h
    exact vuse_any h
  size := fun G p v w hT h => by
    obtain ⟨g, pc, po, bc, bo, A, B, rfl, h⟩ := h
    exact vsize_any hT h
end Go.Proofs.YtkbbeioednhefaaGreatDoor.vt
