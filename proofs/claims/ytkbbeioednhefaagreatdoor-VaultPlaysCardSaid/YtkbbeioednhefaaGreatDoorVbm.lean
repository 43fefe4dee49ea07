/-
  The landed vault: Size, Sync, Append, Files.
-/
import Derived.Test.YtkbbeioednhefaaGreatDoorRdle
namespace Go.Proofs.YtkbbeioednhefaaGreatDoor.vt
open Go.RowKit Go.Proofs.YtkbbeioednhefaaGreatDoor.mem Go.Proofs.YtkbbeioednhefaaGreatDoor.sha Go.Proofs.YtkbbeioednhefaaGreatDoor.strx Go.Proofs.YtkbbeioednhefaaGreatDoor.rows Go.Proofs.YtkbbeioednhefaaGreatDoor.ids Go.Proofs.YtkbbeioednhefaaGreatDoor.rcd Go.Proofs.YtkbbeioednhefaaGreatDoor.jn Go.Proofs.YtkbbeioednhefaaGreatDoor.txl

section
variable {G : Nat → Prop} {w : World} {g : Nat} {v : Vt} {pc po bc bo : Value} {A B : Nat → Prop}
/-- the cells that tell the file in use -/
def CurC (u : World) (g : Nat) (pc : Value) (x : Int) : Prop := (x = 0 ∧ u.cell? ⟨g, 3, none⟩ = some (.int .i64 0) ∧ u.cell? ⟨g, 1, none⟩ = some pc) ∨ (x = 1 ∧ u.cell? ⟨g, 3, none⟩ = some (.int .i64 1) ∧ u.cell? ⟨g, 2, none⟩ = some pc)
theorem VtOf.curc (h : VtOf G w g v pc po bc bo A B) : CurC w g pc v.use := by
  have c1 := h.blk.c1
  have c2 := h.blk.c2
  have c3 := h.blk.c3
  rcases h.s.use with e | e
  · rw [e, if_pos rfl] at c1
    rw [e] at c3
    exact .inl ⟨e, c3, c1⟩
  · rw [e, if_neg (by decide)] at c2
    rw [e] at c3
    exact .inr ⟨e, c3, c2⟩
theorem VtOf.cell_a (h : VtOf G w g v pc po bc bo A B) {u : World} (ht : Turn (fun k => A k ∨ w.heap.size ≤ k) w u) (i : Nat) : u.cell? ⟨g, i, none⟩ = w.cell? ⟨g, i, none⟩ :=
  ht.cell (b := g) (i := i) fun hh => hh.elim (fun x => (h.a g x).2.1 rfl) fun x => absurd h.lt (Nat.not_lt.2 x)
theorem VtOf.tab (h : VtOf G w g v pc po bc bo A B) (hT : crc.Tab w) {u : World} (hb : Below w.heap.size w u) : crc.Tab u := jn_a.next hT hb
theorem VtOf.jn_next (h : VtOf G w g v pc po bc bo A B) {u : World} (hb : Below w.heap.size w u) : JnL (fun k => A k ∨ w.heap.size ≤ k) u pc bc v.cur :=
  jn_a.mono (jn_a.turn h.c (Turn.ofBelow hb) fun _ hk _ => Nat.not_le.2 hk) fun _ => .inl
theorem newA_next {A : Nat → Prop} {w u : World} (hb : Below w.heap.size w u) : New (fun k => A k ∨ w.heap.size ≤ k) u := fun _ hk => .inr (Nat.le_trans hb.size hk)
theorem turnA_next {A : Nat → Prop} {w u : World} (hb : Below w.heap.size w u) : Turn (fun k => A k ∨ w.heap.size ≤ k) w u := (Turn.ofBelow hb).mono fun _ => .inr
theorem below_drew (w : World) : Below w.heap.size w w.drew := below_drewN (Below.refl _ _) 1
set_option maxHeartbeats 4000000 in
theorem vsize_any (hT : crc.Tab w) (h : VtOf G w g v pc po bc bo A B) : Calls Tryz.prog 42 #[.pointer (some ⟨g, 0, none⟩)] w fun e w' => e = .returned (.int .i64 (v.cur.s.length : Int)) ∧ Below w.heap.size w w' := by
  have HM := Lib.hid (vmade_ok g w h.blk.c0)
  have HS := Lib.hid fun u (hb : Below w.heap.size w u) => jn_a.size _ pc bc v.cur u (h.tab hT hb) (h.jn_next hb)
  have HK := Lib.hid fun u (ht : Turn (fun k => A k ∨ w.heap.size ≤ k) w u) i => h.cell_a ht i
  have hc := h.curc
  have HD := Lib.hid (below_drew w)
  obtain ⟨q, hq⟩ : ∃ q : Int, q = (v.cur.s.length : Int) := ⟨_, rfl⟩
  rw [← hq] at HS ⊢
  clear h hT hq
  rcases hc with ⟨-, c3, c1⟩ | ⟨-, c3, c1⟩
  all_goals
    have H3 := Lib.hid c3
    have H1 := Lib.hid c1
    go_enter Tryz.func42, Tryz.ntmps42
    go_wp2_with (go_at_call 28; (with_reducible refine HM.out.mono ?_); rintro e w1 ⟨rfl, rfl⟩)
  · go_region_held3 (fun w' => w'.cell? ⟨g, 3, none⟩ = some (.int .i64 0) ∧ w'.cell? ⟨g, 1, none⟩ = some pc)
      (first | exact ⟨c3, c1⟩ | exact ⟨(HK.out _ (turnA_next HB3.out) 3).trans H3.out, (HK.out _ (turnA_next HB3.out) 1).trans H1.out⟩)
      (first
        | (go_at_call 64; (with_reducible refine (HS.out _ HD.out).mono ?_); rintro e w3 ⟨rfl, hb3⟩; have HB3 := Lib.hid (HD.out.trans (hb3.mono HD.out.size)); clear hb3))
    go_wp2_with fail
    go_ret
    exact ⟨rfl, HB3.out⟩
  · go_region_held3 (fun w' => w'.cell? ⟨g, 3, none⟩ = some (.int .i64 1) ∧ w'.cell? ⟨g, 2, none⟩ = some pc)
      (first | exact ⟨c3, c1⟩ | exact ⟨(HK.out _ (turnA_next HB3.out) 3).trans H3.out, (HK.out _ (turnA_next HB3.out) 2).trans H1.out⟩)
      (first
        | (go_at_call 64; (with_reducible refine (HS.out _ HD.out).mono ?_); rintro e w3 ⟨rfl, hb3⟩; have HB3 := Lib.hid (HD.out.trans (hb3.mono HD.out.size)); clear hb3))
    go_wp2_with fail
    go_ret
    exact ⟨rfl, HB3.out⟩
set_option maxHeartbeats 4000000 in
theorem vsync_any (hT : crc.Tab w) (hn : New G w) (h : VtOf G w g v pc po bc bo A B) : Calls Tryz.prog 10 #[.pointer (some ⟨g, 0, none⟩)] w fun e w' => e = .returned (.int .i64 (syncV v).2) ∧ (∃ A', VtOf G w' g (syncV v).1 pc po bc bo A' B ∧ ∀ k, A' k → A k ∨ w.heap.size ≤ k) ∧ Turn (fun k => A k ∨ w.heap.size ≤ k) w w' := by
  have HM := Lib.hid (vmade_ok g w h.blk.c0)
  have HS := Lib.hid fun u (hb : Below w.heap.size w u) => jn_a.sync _ pc bc v.cur u (h.tab hT hb) (newA_next hb) (h.jn_next hb)
  have HK := Lib.hid fun u (ht : Turn (fun k => A k ∨ w.heap.size ≤ k) w u) i => h.cell_a ht i
  have hc := h.curc
  have HD := Lib.hid (below_drew w)
  have HF := Lib.hid fun u j (hj : JnL (fun k => A k ∨ w.heap.size ≤ k) u pc bc j) ht hs => h.cur hn hj (fun _ => id) ht hs
  have HSN := Lib.hid h.s.sync
  have hq : syncV v = (v.set (syncJ v.cur).1, (syncJ v.cur).2) := rfl
  obtain ⟨q, hq2⟩ : ∃ q, q = syncV v := ⟨_, rfl⟩
  obtain ⟨J, hJ⟩ : ∃ J, J = (syncJ v.cur).1 := ⟨_, rfl⟩
  obtain ⟨z, hz⟩ : ∃ z, z = (syncJ v.cur).2 := ⟨_, rfl⟩
  rw [← hJ, ← hz] at HS hq
  rw [← hq2] at HSN ⊢
  rw [← hq2] at hq
  subst hq
  clear h hT hn hq2 hJ hz
  rcases hc with ⟨-, c3, c1⟩ | ⟨-, c3, c1⟩
  all_goals
    have H3 := Lib.hid c3
    have H1 := Lib.hid c1
    go_enter Tryz.func10, Tryz.ntmps10
    go_wp2_with (go_at_call 28; (with_reducible refine HM.out.mono ?_); rintro e w1 ⟨rfl, rfl⟩)
  · go_region_held3 (fun w' => w'.cell? ⟨g, 3, none⟩ = some (.int .i64 0) ∧ w'.cell? ⟨g, 1, none⟩ = some pc)
      (first | exact ⟨c3, c1⟩ | exact ⟨(HK.out _ (HT3.out) 3).trans H3.out, (HK.out _ (HT3.out) 1).trans H1.out⟩)
      (first
        | (go_at_call 31; (with_reducible refine (HS.out _ HD.out).mono ?_); rintro e w3 ⟨rfl, hj3, ht3⟩; have HJ3 := Lib.hid hj3; have HT3 := Lib.hid ((turnA_next HD.out).trans ht3); clear hj3 ht3))
    go_wp2_with fail
    go_ret
    exact ⟨rfl, ⟨_, HF.out _ _ HJ3.out HT3.out HSN.out, fun k hk => hk.1⟩, HT3.out⟩
  · go_region_held3 (fun w' => w'.cell? ⟨g, 3, none⟩ = some (.int .i64 1) ∧ w'.cell? ⟨g, 2, none⟩ = some pc)
      (first | exact ⟨c3, c1⟩ | exact ⟨(HK.out _ (HT3.out) 3).trans H3.out, (HK.out _ (HT3.out) 2).trans H1.out⟩)
      (first
        | (go_at_call 31; (with_reducible refine (HS.out _ HD.out).mono ?_); rintro e w3 ⟨rfl, hj3, ht3⟩; have HJ3 := Lib.hid hj3; have HT3 := Lib.hid ((turnA_next HD.out).trans ht3); clear hj3 ht3))
    go_wp2_with fail
    go_ret
    exact ⟨rfl, ⟨_, HF.out _ _ HJ3.out HT3.out HSN.out, fun k hk => hk.1⟩, HT3.out⟩
set_option maxHeartbeats 4000000 in
/-- .. whatever else stands in the block -/
theorem vsync_raw (F : Nat → Prop) (j : Jr) (x : Int) (hT : crc.Tab w) (hn : New F w) (h0 : w.cell? ⟨g, 0, none⟩ = some (.pointer (some ⟨g, 0, none⟩))) (hc : CurC w g pc x) (hg : ¬ F g) (hj : JnL F w pc bc j) :
    Calls Tryz.prog 10 #[.pointer (some ⟨g, 0, none⟩)] w fun e w' => e = .returned (.int .i64 (syncJ j).2) ∧ JnL F w' pc bc (syncJ j).1 ∧ Turn F w w' := by
  have HM := Lib.hid (vmade_ok g w h0)
  have HS := Lib.hid fun u (hb : Below w.heap.size w u) => jn_a.sync F pc bc j u (jn_a.next hT hb) (hn.of hb.size) (jn_a.turn hj (Turn.ofBelow hb) fun _ hk _ => Nat.not_le.2 hk)
  have HK := Lib.hid fun u (ht : Turn F w u) i => (show u.cell? ⟨g, i, none⟩ = w.cell? ⟨g, i, none⟩ from ht.cell (b := g) (i := i) hg)
  have HD := Lib.hid (below_drew w)
  have HN := Lib.hid hn
  obtain ⟨J, hJ⟩ : ∃ J, J = (syncJ j).1 := ⟨_, rfl⟩
  obtain ⟨z, hz⟩ : ∃ z, z = (syncJ j).2 := ⟨_, rfl⟩
  rw [← hJ, ← hz] at HS ⊢
  clear hT hn h0 hg hj hJ hz
  rcases hc with ⟨-, c3, c1⟩ | ⟨-, c3, c1⟩
  all_goals
    have H3 := Lib.hid c3
    have H1 := Lib.hid c1
    go_enter Tryz.func10, Tryz.ntmps10
    go_wp2_with (go_at_call 28; (with_reducible refine HM.out.mono ?_); rintro e w1 ⟨rfl, rfl⟩)
  · go_region_held3 (fun w' => w'.cell? ⟨g, 3, none⟩ = some (.int .i64 0) ∧ w'.cell? ⟨g, 1, none⟩ = some pc)
      (first | exact ⟨c3, c1⟩ | exact ⟨(HK.out _ (HT3.out) 3).trans H3.out, (HK.out _ (HT3.out) 1).trans H1.out⟩)
      (first
        | (go_at_call 31; (with_reducible refine (HS.out _ HD.out).mono ?_); rintro e w3 ⟨rfl, hj3, ht3⟩; have HJ3 := Lib.hid hj3; have HT3 := Lib.hid ((Turn.fresh HD.out HN.out).trans ht3); clear hj3 ht3))
    go_wp2_with fail
    go_ret
    exact ⟨rfl, HJ3.out, HT3.out⟩
  · go_region_held3 (fun w' => w'.cell? ⟨g, 3, none⟩ = some (.int .i64 1) ∧ w'.cell? ⟨g, 2, none⟩ = some pc)
      (first | exact ⟨c3, c1⟩ | exact ⟨(HK.out _ (HT3.out) 3).trans H3.out, (HK.out _ (HT3.out) 2).trans H1.out⟩)
      (first
        | (go_at_call 31; (with_reducible refine (HS.out _ HD.out).mono ?_); rintro e w3 ⟨rfl, hj3, ht3⟩; have HJ3 := Lib.hid hj3; have HT3 := Lib.hid ((Turn.fresh HD.out HN.out).trans ht3); clear hj3 ht3))
    go_wp2_with fail
    go_ret
    exact ⟨rfl, HJ3.out, HT3.out⟩
set_option maxHeartbeats 4000000 in
theorem vappend_any (t : ByteArray) (hT : crc.Tab w) (hn : New G w) (h : VtOf G w g v pc po bc bo A B) (hs : v.cur.s.length ≤ 100000) (ht : t.size ≤ 300) : Calls Tryz.prog 8 #[.pointer (some ⟨g, 0, none⟩), .string t] w fun e w' => e = .returned (.int .i64 (appV v t.data.toList).2) ∧ (∃ A', VtOf G w' g (appV v t.data.toList).1 pc po bc bo A' B) ∧ Turn G w w' := by
  have htl : t.data.toList.length ≤ 300 := by rw [← size_list]; exact ht
  have HM := Lib.hid (vmade_ok g w h.blk.c0)
  have HE := Lib.hid fun u => ventry_any t u
  have HS := Lib.hid fun u (hb : Below w.heap.size w u) => jn_a.append _ pc bc v.cur (entR t.data.toList) u (h.tab hT hb) (newA_next hb) (h.jn_next hb) hs htl
  have htx : oct.tx t.data.toList = t := by unfold oct.tx; rfl
  simp only [recv, entR, htx] at HS
  have HK := Lib.hid fun u (ht : Turn (fun k => A k ∨ w.heap.size ≤ k) w u) i => h.cell_a ht i
  have hc := h.curc
  have HD := Lib.hid (below_drew w)
  have HF := Lib.hid fun u j (hj : JnL (fun k => A k ∨ w.heap.size ≤ k) u pc bc j) ht hs => h.cur hn hj (fun _ => id) ht hs
  have HG := Lib.hid fun u ht => h.turnA (w' := u) hn ht
  have hbig : ¬ 1048576 < t.data.toList.length := by omega
  have HSN := Lib.hid (h.s.app (s := t.data.toList) (by omega))
  have hq : appV v t.data.toList = (v.set (appJ v.cur ⟨3, t.data.toList⟩).1, (appJ v.cur ⟨3, t.data.toList⟩).2) := by unfold appV; rw [if_neg hbig]; rfl
  obtain ⟨q, hq2⟩ : ∃ q, q = appV v t.data.toList := ⟨_, rfl⟩
  obtain ⟨J, hJ⟩ : ∃ J, J = (appJ v.cur ⟨3, t.data.toList⟩).1 := ⟨_, rfl⟩
  obtain ⟨z, hz⟩ : ∃ z, z = (appJ v.cur ⟨3, t.data.toList⟩).2 := ⟨_, rfl⟩
  rw [← hJ, ← hz] at HS hq
  rw [← hq2] at HSN ⊢
  rw [← hq2] at hq
  subst hq
  clear h hT hn hq2 hJ hz htl htx hs ht hbig
  rcases hc with ⟨-, c3, c1⟩ | ⟨-, c3, c1⟩
  all_goals
    have H3 := Lib.hid c3
    have H1 := Lib.hid c1
    go_enter Tryz.func8, Tryz.ntmps8
    go_wp2_with (go_at_call 28; (with_reducible refine HM.out.mono ?_); rintro e w1 ⟨rfl, rfl⟩)
  · go_region_held3 (fun w' => w'.cell? ⟨g, 3, none⟩ = some (.int .i64 0) ∧ w'.cell? ⟨g, 1, none⟩ = some pc)
      (first | exact ⟨c3, c1⟩ | exact ⟨(HK.out _ (turnA_next HB2.out) 3).trans H3.out, (HK.out _ (turnA_next HB2.out) 1).trans H1.out⟩ | exact ⟨(HK.out _ (HT3.out) 3).trans H3.out, (HK.out _ (HT3.out) 1).trans H1.out⟩)
      (first
        | (go_at_call 30; (with_reducible refine (HE.out _).mono ?_); rintro e w2 ⟨rfl, hb2⟩; have HB2 := Lib.hid (HD.out.trans (hb2.mono HD.out.size)); clear hb2)
        | (go_at_call 29; (with_reducible refine (HS.out _ HB2.out).mono ?_); rintro e w3 ⟨rfl, hj3, ht3⟩; have HJ3 := Lib.hid hj3; have HT3 := Lib.hid ((turnA_next HB2.out).trans ht3); clear hj3 ht3))
    go_wp2_with fail
    go_ret
    exact ⟨rfl, ⟨_, HF.out _ _ HJ3.out HT3.out HSN.out⟩, HG.out _ HT3.out⟩
  · go_region_held3 (fun w' => w'.cell? ⟨g, 3, none⟩ = some (.int .i64 1) ∧ w'.cell? ⟨g, 2, none⟩ = some pc)
      (first | exact ⟨c3, c1⟩ | exact ⟨(HK.out _ (turnA_next HB2.out) 3).trans H3.out, (HK.out _ (turnA_next HB2.out) 2).trans H1.out⟩ | exact ⟨(HK.out _ (HT3.out) 3).trans H3.out, (HK.out _ (HT3.out) 2).trans H1.out⟩)
      (first
        | (go_at_call 30; (with_reducible refine (HE.out _).mono ?_); rintro e w2 ⟨rfl, hb2⟩; have HB2 := Lib.hid (HD.out.trans (hb2.mono HD.out.size)); clear hb2)
        | (go_at_call 29; (with_reducible refine (HS.out _ HB2.out).mono ?_); rintro e w3 ⟨rfl, hj3, ht3⟩; have HJ3 := Lib.hid hj3; have HT3 := Lib.hid ((turnA_next HB2.out).trans ht3); clear hj3 ht3))
    go_wp2_with fail
    go_ret
    exact ⟨rfl, ⟨_, HF.out _ _ HJ3.out HT3.out HSN.out⟩, HG.out _ HT3.out⟩
/-- the two files as they stand in the block -/
theorem VtOf.both (h : VtOf G w g v pc po bc bo A B) : ∃ pa pb ba bb, w.cell? ⟨g, 1, none⟩ = some pa ∧ w.cell? ⟨g, 2, none⟩ = some pb ∧ JnL (fun k => A k ∨ B k) w pa ba v.a ∧ JnL (fun k => A k ∨ B k) w pb bb v.b := by
  have c1 := h.blk.c1
  have c2 := h.blk.c2
  have hc := jn_a.mono (H := fun k => A k ∨ B k) h.c fun _ => .inl
  have ho := jn_a.mono (H := fun k => A k ∨ B k) h.o fun _ => .inr
  unfold Vt.cur at hc
  unfold Vt.othr at ho
  by_cases hu : v.use = 0
  · rw [if_pos hu] at c1 c2 hc ho
    exact ⟨_, _, _, _, c1, c2, hc, ho⟩
  · rw [if_neg hu] at c1 c2 hc ho
    exact ⟨_, _, _, _, c1, c2, ho, hc⟩
set_option maxHeartbeats 4000000 in
theorem vfiles_any (hT : crc.Tab w) (h : VtOf G w g v pc po bc bo A B) : Calls Tryz.prog 34 #[.pointer (some ⟨g, 0, none⟩)] w fun e w' => e = .returned (.tuple #[.string (bt v.a.s), .string (bt v.b.s)]) ∧ Below w.heap.size w w' := by
  have HM := Lib.hid (vmade_ok g w h.blk.c0)
  obtain ⟨pa, pb, ba, bb, c1, c2, ha, hb⟩ := h.both
  have hlt := h.lt
  have HS1 := Lib.hid fun u (hb : Below w.heap.size w u) => jn_a.data _ pa ba v.a u (h.tab hT hb) (jn_a.turn ha (Turn.ofBelow hb) fun _ hk _ => Nat.not_le.2 hk)
  have HS2 := Lib.hid fun u (hb2 : Below w.heap.size w u) => jn_a.data _ pb bb v.b u (h.tab hT hb2) (jn_a.turn hb (Turn.ofBelow hb2) fun _ hk _ => Nat.not_le.2 hk)
  obtain ⟨ga, rfl, d1, hl1, -⟩ := JnL.form ha
  obtain ⟨gb, rfl, d2, hl2, -⟩ := JnL.form hb
  have HK := Lib.hid fun u (ht : Below w.heap.size w u) => And.intro ((ht.cell (p := ⟨g, 1, none⟩) hlt).trans c1) (And.intro ((ht.cell (p := ⟨g, 2, none⟩) hlt).trans c2) (And.intro ((ht.cell (p := ⟨ga, 0, none⟩) hl1).trans d1) ((ht.cell (p := ⟨gb, 0, none⟩) hl2).trans d2)))
  have HD := Lib.hid (below_drew w)
  rw [show oct.tx v.a.s = bt v.a.s from rfl] at HS1
  rw [show oct.tx v.b.s = bt v.b.s from rfl] at HS2
  obtain ⟨ta, hta⟩ : ∃ t, t = bt v.a.s := ⟨_, rfl⟩
  obtain ⟨tb, htb⟩ : ∃ t, t = bt v.b.s := ⟨_, rfl⟩
  rw [← hta] at HS1 ⊢
  rw [← htb] at HS2 ⊢
  clear h hT ha hb hlt hl1 hl2 hta htb
  go_enter Tryz.func34, Tryz.ntmps34
  go_wp2_with (go_at_call 28; (with_reducible refine HM.out.mono ?_); rintro e w1 ⟨rfl, rfl⟩)
  go_region_held3 (fun w' => w'.cell? ⟨g, 1, none⟩ = some (.pointer (some ⟨ga, 0, none⟩)) ∧ w'.cell? ⟨g, 2, none⟩ = some (.pointer (some ⟨gb, 0, none⟩)) ∧ w'.cell? ⟨ga, 0, none⟩ = some ba ∧ w'.cell? ⟨gb, 0, none⟩ = some bb)
    (first | exact ⟨c1, c2, d1, d2⟩ | exact HK.out _ HB3.out | exact HK.out _ HB2.out)
    (first
      | (go_at_call 24; (with_reducible refine (HS2.out _ HB2.out).mono ?_); rintro e w3 ⟨rfl, hb3⟩; have HB3 := Lib.hid (HB2.out.trans (hb3.mono HB2.out.size)); clear hb3)
      | (go_at_call 24; (with_reducible refine (HS1.out _ HD.out).mono ?_); rintro e w2 ⟨rfl, hb2⟩; have HB2 := Lib.hid (HD.out.trans (hb2.mono HD.out.size)); clear hb2))
  go_wp2_with fail
  refine bodyPost_ret (results_tmp2 rfl _ _ _) rfl ⟨rfl, HB3.out⟩
end
end Go.Proofs.YtkbbeioednhefaaGreatDoor.vt
