/-
  The landed vault: Snap; vt_is.
-/
import Derived.Test.YtkbbeioednhefaaDoorVbg
namespace Go.Proofs.YtkbbeioednhefaaDoor.vt
open Go.RowKit Go.Proofs.YtkbbeioednhefaaDoor.mem Go.Proofs.YtkbbeioednhefaaDoor.sha Go.Proofs.YtkbbeioednhefaaDoor.strx Go.Proofs.YtkbbeioednhefaaDoor.rows Go.Proofs.YtkbbeioednhefaaDoor.ids Go.Proofs.YtkbbeioednhefaaDoor.rcd Go.Proofs.YtkbbeioednhefaaDoor.jn Go.Proofs.YtkbbeioednhefaaDoor.txl

section
variable {G : Nat → Prop} {w : World} {g : Nat} {v : Vt} {pc po bc bo : Value} {A B : Nat → Prop}
/-- the two files in each other's place -/
theorem VtOf.swap {v1 v' : Vt} {J : Jr} {n : Int} {p b : Value} {w3 w4 : World} {F : Nat → Prop} (h : VtOf G w g v1 pc p bc b A B) (hF : ∀ k, F k → B k ∨ w.heap.size ≤ k) (hn : New G w)
    (ht3 : Turn (· = g) w w3) (hb3 : VBlk w3 g (.pointer (some ⟨g, 0, none⟩)) (if v1.use = 0 then pc else p) (if v1.use = 0 then p else pc) (1 - v1.use) n) (ht4 : Turn F w3 w4) (hj : JnL F w4 p b J) (hv : v' = snapped v1 J (1 - v1.use) n) (hs : Snd v') : VtL G w4 (.pointer (some ⟨g, 0, none⟩)) v' ∧ Turn G w w4 := by
  have hgl := h.lt
  have hz3 := ht3.size
  have hz4 := ht4.size
  have hFg : ¬ F g := fun hf => (hF g hf).elim (fun x => (h.b g x).2.1 rfl) fun e => by omega
  have hc := snap_cur (v := v1) (j := J) (n := n) h.s.use
  rw [← hv] at hc
  have hvu : v'.use = 1 - v1.use := by rw [hv]; rfl
  have hvn : v'.no = n := by rw [hv]; rfl
  have hFG : ∀ k, F k → G k := fun k hf => (hF k hf).elim (fun x => (h.b k x).1) (hn k)
  refine ⟨⟨g, p, pc, b, bc, fun k => F k ∧ k < w4.heap.size, A, rfl, ⟨?_, by rw [hc.1]; exact jn_is.cap hj, ?_, fun k hk => ⟨hFG k hk.1, fun e => hFg (e ▸ hk.1), hk.2⟩, fun k hk => ⟨(h.a k hk).1, (h.a k hk).2.1, Nat.lt_of_lt_of_le (h.a k hk).2.2 (by omega)⟩, fun k hk ha => (hF k hk.1).elim (fun x => h.ab k ha x) fun e => by have := (h.a k ha).2.2; omega, h.g, hs⟩⟩, (ht3.mono fun k hk => hk ▸ h.g.1).trans (ht4.mono hFG)⟩
  · have hb4 := Blk.turn hb3 ht4 hFg
    rw [hvu, hvn]
    rcases h.s.use with e | e
    · rw [e] at hb4 ⊢
      rw [if_pos rfl, if_pos rfl] at hb4
      rw [if_neg (by decide), if_neg (by decide)]
      exact hb4
    · rw [e] at hb4 ⊢
      rw [if_neg (by decide), if_neg (by decide)] at hb4
      rw [if_pos (by decide), if_pos (by decide)]
      exact hb4
  · rw [hc.2]
    exact jn_is.turn (jn_is.turn h.c ht3 fun k _ ha e => (h.a k ha).2.1 e) ht4 fun k _ ha hf => (hF k hf).elim (fun x => h.ab k ha x) fun e => by have := (h.a k ha).2.2; omega
set_option maxHeartbeats 8000000 in
set_option maxRecDepth 100000 in
theorem vsnap_any (hT : crc.Tab w) (hn : New G w) (h : VtOf G w g v pc po bc bo A B) (hs : smallV v) (h0 : ¬ G 0) (lv : Value) (L : List (List UInt8)) (N : Nat → Prop) (hl : TxA w N lv L) (hL : smallL L) : Calls Tryd.prog 34 #[.pointer (some ⟨g, 0, none⟩), lv] w fun e w' =>
    e = .returned (.int .i64 (snapV v L).2) ∧ VtL G w' (.pointer (some ⟨g, 0, none⟩)) (snapV v L).1 ∧ Turn G w w' := by
  by_cases hno : 2147483647 ≤ v.no
  · have hE := layE_big hno L
    have hd : snapV v L = (v, 3) := by
      unfold snapV
      rw [if_pos (by rw [hE]; decide), hE]
    rw [hd]
    have HL := Lib.hid (vlay_big h hno lv)
    have HB := Lib.hid fun w' (hb : Below w.heap.size w w') => big_of h hn hb
    clear hT hn h hs h0 hl hL hno hE hd
    go_enter Tryd.func34, Tryd.ntmps34
    go_wp2_with (go_at_call 53; (with_reducible refine (HL.out).mono ?_); rintro e w2 ⟨rfl, hb2⟩; skip)
    obtain ⟨h1, h2⟩ := HB.out _ hb2
    go_ret
    exact ⟨rfl, h1, h2⟩
  have hno : v.no < 2147483647 := by omega
  have hE := layE_ok hno hL
  rw [snapV_ok hE]
  have HSN := Lib.hid (h.s.snap hno hL)
  have HL := Lib.hid (vlay_any hT hn h hno N lv L hl hL)
  have hu1 : (syncV v).1.use = v.use := use_set _ _
  have hn1 : (syncV v).1.no = v.no := no_set _ _
  have hnn := h.s.no
  obtain ⟨v1, hv1⟩ : ∃ x, x = (syncV v).1 := ⟨_, rfl⟩
  obtain ⟨J, hJ⟩ : ∃ J, J = layJ v.no L := ⟨_, rfl⟩
  rw [← hv1] at HL HSN hu1 hn1 ⊢
  rw [← hJ] at HL HSN ⊢
  obtain ⟨v2, hv2⟩ : ∃ x, x = v1.oth J := ⟨_, rfl⟩
  have hu2 : v2.use = v.use := by rw [hv2, use_oth, hu1]
  have hn2 : v2.no = v.no := by rw [hv2, no_oth, hn1]
  have ho2 : v2.othr = J := by rw [hv2, othr_oth]
  have hsp : ∀ j u n, snapped v1 j u n = snapped v2 j u n := fun j u n => by unfold snapped; rw [hv2, oth_oth]
  rw [hsp] at HSN ⊢
  rw [← hv2] at HL
  obtain ⟨q, hq⟩ : ∃ q, q = v.no := ⟨_, rfl⟩
  rw [← hq] at HSN hn2 hno hnn ⊢
  rw [← hu2] at HSN ⊢
  have wq : IntKind.i64.wrap (q + 1) = q + 1 := by rw [IntKind.wrap_i64]; omega
  obtain ⟨vz, hvz⟩ : ∃ x, x = snapped v2 (syncJ J).1 (1 - v2.use) (q + 1) := ⟨_, rfl⟩
  rw [← hvz] at HSN ⊢
  have HVZ := Lib.hid hvz
  have HN := Lib.hid hn
  have HTG := Lib.hid fun u (ht : Turn G w u) => rcd.tab_turn hT ht h0
  have HO2 := Lib.hid (And.intro ho2 hn2)
  have HVO := Lib.hid fun (g : Nat) (x : Int) u (hx : x = 0 ∨ x = 1) (h3 : u.cell? ⟨g, 3, none⟩ = some (.int .i64 x)) => vother_any g x u h3 hx
  clear hT hn h hs h0 hl hL hno hE hu1 hn1 hnn hv1 hJ hv2 hu2 hn2 ho2 hsp hq hvz
  go_enter Tryd.func34, Tryd.ntmps34
  go_upto_region 4 with (go_at_call 53; (with_reducible refine (HL.out).mono ?_); rintro e w2 ⟨rfl, ⟨p, b, A', B', hv2⟩, ht2⟩; have HV2 := Lib.hid hv2; have HT2 := Lib.hid ht2; clear hv2 ht2)
  have HD := Lib.hid (below_drew w2)
  have hc := HV2.out.othc
  have c4 := HV2.out.blk.c4
  rw [HO2.out.2] at c4
  have f3 := Blk.frozen HV2.out.blk 3
  have f4 := Blk.frozen HV2.out.blk 4
  rcases hc with ⟨eu, c3, c1⟩ | ⟨eu, c3, c1⟩
  · have HO1 := Lib.hid (HVO.out g 0 w2.drew (.inl rfl) ((HD.out.cell (p := ⟨g, 3, none⟩) HV2.out.lt).trans c3))
    have HC1 := Lib.hid c1
    have HEU := Lib.hid eu
    clear c1 eu
    go_region_with (go_at_call 54; (with_reducible refine HO1.out.mono ?_); rintro e w4 ⟨rfl, rfl⟩)
    all_goals
      obtain ⟨w3, hw3⟩ : ∃ z, z = (w2.setCell ⟨g, 3, none⟩ (.int .i64 1)).setCell ⟨g, 4, none⟩ (.int .i64 (q + 1)) := ⟨_, rfl⟩
      have ht3 : Turn (· = g) w2 w3 := by rw [hw3]; exact ((Turn.refl (· = g) w2).setCell (p := ⟨g, 3, none⟩) rfl _).setCell (p := ⟨g, 4, none⟩) rfl _
      have hb3 := Blk.set_ (Blk.set_ HV2.out.blk 3 (.int .i64 1)) 4 (.int .i64 (q + 1))
      rw [← hw3] at hb3 ⊢
      clear hw3
      have hb3' : VBlk w3 g (.pointer (some ⟨g, 0, none⟩)) (if v2.use = 0 then pc else p) (if v2.use = 0 then p else pc) (1 - v2.use) (q + 1) := by rw [HEU.out] at hb3 ⊢; exact hb3
      have hb3d : VBlk w3.drew g (.pointer (some ⟨g, 0, none⟩)) (if v2.use = 0 then pc else p) (if v2.use = 0 then p else pc) (1 - v2.use) (q + 1) := hb3'
      have hTd : crc.Tab w3.drew := HTG.out _ (HT2.out.trans ((ht3.mono fun k hk => hk ▸ HV2.out.g.1).drewN 1))
      have hjd : JnL (fun k => B' k ∨ w2.heap.size ≤ k) w3.drew p b J := by
        have h1 := HV2.out.o
        rw [HO2.out.1] at h1
        exact jn_is.mono (jn_is.turn h1 (ht3.drewN 1) fun k _ hk e => (HV2.out.b k hk).2.1 e) fun _ => .inl
      have hFg : ¬ (B' g ∨ w2.heap.size ≤ g) := fun hh => hh.elim (fun x => (HV2.out.b g x).2.1 rfl) fun e => absurd HV2.out.lt (Nat.not_lt.2 e)
      have hcd : CurC w3.drew g p 1 := by
        have k1 := hb3d.c1
        have k2 := hb3d.c2
        have k3 := hb3d.c3
        rw [HEU.out] at k1 k2 k3
        exact .inr ⟨rfl, k3, k2⟩
      have HSR := Lib.hid (vsync_raw (fun k => B' k ∨ w2.heap.size ≤ k) J 1 hTd (fun k hk => .inr (Nat.le_trans ht3.size hk)) hb3d.c0 hcd hFg hjd)
      have HSW := Lib.hid fun w4 ht4 hj => HV2.out.swap (w4 := w4) (fun _ => id) (HN.out.turn HT2.out) (ht3.drewN 1) hb3d ht4 hj HVZ.out HSN.out
      clear hb3 hb3' hb3d hTd hjd hFg hcd ht3 HO1 c3 c4 f3 f4
      go_wp2_with (go_at_call 27; (with_reducible refine (HSR.out).mono ?_); rintro e w4 ⟨rfl, hj4, ht4⟩; have HS4 := Lib.hid (HSW.out _ ht4 hj4); clear hj4 ht4)
      go_ret
      exact ⟨rfl, HS4.out.1, HT2.out.trans HS4.out.2⟩
  · have HO1 := Lib.hid (HVO.out g 1 w2.drew (.inr rfl) ((HD.out.cell (p := ⟨g, 3, none⟩) HV2.out.lt).trans c3))
    have HC1 := Lib.hid c1
    have HEU := Lib.hid eu
    clear c1 eu
    go_region_with (go_at_call 54; (with_reducible refine HO1.out.mono ?_); rintro e w4 ⟨rfl, rfl⟩)
    all_goals
      obtain ⟨w3, hw3⟩ : ∃ z, z = (w2.setCell ⟨g, 3, none⟩ (.int .i64 0)).setCell ⟨g, 4, none⟩ (.int .i64 (q + 1)) := ⟨_, rfl⟩
      have ht3 : Turn (· = g) w2 w3 := by rw [hw3]; exact ((Turn.refl (· = g) w2).setCell (p := ⟨g, 3, none⟩) rfl _).setCell (p := ⟨g, 4, none⟩) rfl _
      have hb3 := Blk.set_ (Blk.set_ HV2.out.blk 3 (.int .i64 0)) 4 (.int .i64 (q + 1))
      rw [← hw3] at hb3 ⊢
      clear hw3
      have hb3' : VBlk w3 g (.pointer (some ⟨g, 0, none⟩)) (if v2.use = 0 then pc else p) (if v2.use = 0 then p else pc) (1 - v2.use) (q + 1) := by rw [HEU.out] at hb3 ⊢; exact hb3
      have hb3d : VBlk w3.drew g (.pointer (some ⟨g, 0, none⟩)) (if v2.use = 0 then pc else p) (if v2.use = 0 then p else pc) (1 - v2.use) (q + 1) := hb3'
      have hTd : crc.Tab w3.drew := HTG.out _ (HT2.out.trans ((ht3.mono fun k hk => hk ▸ HV2.out.g.1).drewN 1))
      have hjd : JnL (fun k => B' k ∨ w2.heap.size ≤ k) w3.drew p b J := by
        have h1 := HV2.out.o
        rw [HO2.out.1] at h1
        exact jn_is.mono (jn_is.turn h1 (ht3.drewN 1) fun k _ hk e => (HV2.out.b k hk).2.1 e) fun _ => .inl
      have hFg : ¬ (B' g ∨ w2.heap.size ≤ g) := fun hh => hh.elim (fun x => (HV2.out.b g x).2.1 rfl) fun e => absurd HV2.out.lt (Nat.not_lt.2 e)
      have hcd : CurC w3.drew g p 0 := by
        have k1 := hb3d.c1
        have k2 := hb3d.c2
        have k3 := hb3d.c3
        rw [HEU.out] at k1 k2 k3
        exact .inl ⟨rfl, k3, k1⟩
      have HSR := Lib.hid (vsync_raw (fun k => B' k ∨ w2.heap.size ≤ k) J 0 hTd (fun k hk => .inr (Nat.le_trans ht3.size hk)) hb3d.c0 hcd hFg hjd)
      have HSW := Lib.hid fun w4 ht4 hj => HV2.out.swap (w4 := w4) (fun _ => id) (HN.out.turn HT2.out) (ht3.drewN 1) hb3d ht4 hj HVZ.out HSN.out
      clear hb3 hb3' hb3d hTd hjd hFg hcd ht3 HO1 c3 c4 f3 f4
      go_wp2_with (go_at_call 27; (with_reducible refine (HSR.out).mono ?_); rintro e w4 ⟨rfl, hj4, ht4⟩; have HS4 := Lib.hid (HSW.out _ ht4 hj4); clear hj4 ht4)
      go_ret
      exact ⟨rfl, HS4.out.1, HT2.out.trans HS4.out.2⟩
end
/-- .. in blocks none of which is the table's -/
def VtV (G : Nat → Prop) (w : World) (p : Value) (v : Vt) : Prop := VtL (fun k => G k ∧ k ≠ 0) w p v
theorem new_v {G : Nat → Prop} {w : World} (hT : crc.Tab w) (hn : New G w) : New (fun k => G k ∧ k ≠ 0) w := fun k hk => ⟨hn k hk, by have := hT.1; omega⟩
theorem left_v {G : Nat → Prop} {w w' : World} {p l : Value} {v : Vt} {L : List (List UInt8)} (h : Left VtL (fun k => G k ∧ k ≠ 0) w p v l L w') : Left VtV G w p v l L w' := by
  obtain ⟨G', ⟨g, pc, po, bc, bo, A, B, hp, h1⟩, h2, h3, h4, h5⟩ := h
  exact ⟨G', ⟨g, pc, po, bc, bo, A, B, hp, h1.mono fun k hk => ⟨hk, (h3 k hk).2⟩⟩, h2, fun k hk => (h3 k hk).1, h4.mono fun k _ hk => ⟨hk.1.1, hk.2⟩, h5.mono fun k hk => hk.1⟩
theorem vt_is : VtIs crc.Tab VtV where
  next := jn_is.next
  wf := fun {G w p v} h => by
    obtain ⟨g, pc, po, bc, bo, A, B, hp, h⟩ := h
    exact h.s.wf
  cap := fun {G w p v} h => by
    obtain ⟨g, pc, po, bc, bo, A, B, rfl, h⟩ := h
    obtain ⟨g', pc, po, bc, bo, A, B, e, h⟩ := VtL.cap ⟨g, pc, po, bc, bo, A, B, rfl, h⟩
    exact ⟨g', pc, po, bc, bo, A, B, e, h.mono fun k hk => ⟨⟨hk.1.1, hk.2⟩, hk.1.2⟩⟩
  mono := fun {G H w p v} h hh => by
    obtain ⟨g, pc, po, bc, bo, A, B, rfl, h⟩ := h
    exact ⟨g, pc, po, bc, bo, A, B, rfl, h.mono fun k hk => ⟨hh k hk.1, hk.2⟩⟩
  turn := fun {G H w w' p v} h ht hd => by
    obtain ⟨g, pc, po, bc, bo, A, B, rfl, h⟩ := h
    exact ⟨g, pc, po, bc, bo, A, B, rfl, h.turn ht fun k hk hg => hd k hk hg.1⟩
  new := fun w hT => (vnew_any w hT).mono fun e w' ⟨p, he, ⟨g, pc, po, bc, bo, A, B, hp, h⟩, hb⟩ => ⟨p, he, ⟨g, pc, po, bc, bo, A, B, hp, h.mono fun k hk => ⟨hk, by have := hT.1; omega⟩⟩, hb⟩
  append := fun G p v t w hT hn h hs ht => by
    obtain ⟨g, pc, po, bc, bo, A, B, rfl, h⟩ := h
    exact (vappend_any t hT (new_v hT hn) h hs.cur ht).mono fun e w' ⟨he, ⟨A', h'⟩, htt⟩ => ⟨he, ⟨g, pc, po, bc, bo, A', B, rfl, h'⟩, htt.mono fun k hk => hk.1⟩
  sync := fun G p v w hT hn h hs => by
    obtain ⟨g, pc, po, bc, bo, A, B, rfl, h⟩ := h
    exact (vsync_any hT (new_v hT hn) h).mono fun e w' ⟨he, ⟨A', h', _⟩, htt⟩ => ⟨he, ⟨g, pc, po, bc, bo, A', B, rfl, h'⟩, (h.turnA (new_v hT hn) htt).mono fun k hk => hk.1⟩
  crash := fun G p v n w hT hn h hs => by
    obtain ⟨g, pc, po, bc, bo, A, B, rfl, h⟩ := h
    exact (vcrash_any n hT (new_v hT hn) h hs fun h0 => (h.a 0 h0).1.2 rfl).mono fun e w' ⟨l, he, hl⟩ => ⟨l, he, left_v hl⟩
  snap := fun G p v l L w hT hn h hs hl hL => by
    obtain ⟨g, pc, po, bc, bo, A, B, rfl, h⟩ := h
    exact (vsnap_any hT (new_v hT hn) h hs (fun h0 => h0.2 rfl) l L _ hl hL).mono fun e w' ⟨he, h', htt⟩ => ⟨he, h', htt.mono fun k hk => hk.1⟩
  die := fun G p v l L n w hT hn h hs hl hL => by
    obtain ⟨g, pc, po, bc, bo, A, B, rfl, h⟩ := h
    exact (vdie_any n hT (new_v hT hn) h hs (fun h0 => h0.2 rfl) l L _ hl hL).mono fun e w' ⟨m, he, hl⟩ => ⟨m, he, left_v hl⟩
  files := fun G p v w hT h => by
    obtain ⟨g, pc, po, bc, bo, A, B, rfl, h⟩ := h
    exact vfiles_any hT h
  load := fun s t w hT hs ht => by
    refine (vLoad_any s t (by omega) (by omega) w hT).mono ?_
    rintro e w' ⟨p, l, he, hb, hr⟩
    refine ⟨p, l, he, hb, ?_⟩
    rcases hr with hr | ⟨h1, pa, G', hp, hv, hn, hg, hl⟩
    · exact .inl hr
    · obtain ⟨g, pc, po, bc, bo, A, B, hp2, hv⟩ := hv
      exact .inr ⟨h1, pa, G', hp, ⟨g, pc, po, bc, bo, A, B, hp2, hv.mono fun k hk => ⟨hk, by have := hT.1; have := hg k hk; omega⟩⟩, hn, hg, hl⟩
  use := fun G p v w hT h => by
    obtain ⟨g, pc, po, bc, bo, A, B, rfl, h⟩ := h
    exact vuse_any h
  size := fun G p v w hT h => by
    obtain ⟨g, pc, po, bc, bo, A, B, rfl, h⟩ := h
    exact vsize_any hT h
end Go.Proofs.YtkbbeioednhefaaDoor.vt
