/-
  petrelref13.New; what is alike: the program's vault and the plain one side by side.
  The program's vault and the plain one side by side; petrellaw13.alike.
  How big a vault grows: bounds that every call keeps.
  petrellaw13.long: is something longer than is asked for.
-/
import Derived.Test.YtkbbeioednhefaaGreatDoorVff
import Derived.Test.YtkbbeioednhefaaGreatDoorOpentx
namespace Go.Proofs.YtkbbeioednhefaaGreatDoor.vt
open Go.RowKit Go.Proofs.YtkbbeioednhefaaGreatDoor.mem Go.Proofs.YtkbbeioednhefaaGreatDoor.sha Go.Proofs.YtkbbeioednhefaaGreatDoor.strx Go.Proofs.YtkbbeioednhefaaGreatDoor.rows Go.Proofs.YtkbbeioednhefaaGreatDoor.ids Go.Proofs.YtkbbeioednhefaaGreatDoor.rcd Go.Proofs.YtkbbeioednhefaaGreatDoor.jn Go.Proofs.YtkbbeioednhefaaGreatDoor.txl

theorem appendA (F : Nat → Prop) (X : Nat) (v : Vt) (la lb : Value) (r : Rc) (w : World) (h : VX w F X v la lb) (hl : v.a.l.length ≤ 30000) (hs : v.a.s.length ≤ 1000000) (hb : r.body.length ≤ 1000) :
    Calls Tryz.prog 25 #[.pointer (some ⟨X, 0, none⟩), recv r] w fun e w' => e = .returned (.int .i64 (appJ v.a r).2) ∧ VXR w F X { v with a := (appJ v.a r).1 } w' := by
  refine (append_o (slotA v lb) X v.a la r w h.joa (OwnR.rcv h.a) hl hs (by omega) h.xa).mono ?_
  rintro e w' ⟨v', he, hj, ho, ht⟩
  exact ⟨he, h.setA hj ho ht⟩
theorem results_v1 {fn : Func} {p : Tmp} (h : fn.results = #[.cell p 31]) (tmps : Array Value) (w : World) (g : Nat) (cs : Array Value) (hs : cs.size = 10)
    (hp : tmps.getD p undef = .pointer (some ⟨g, 0, none⟩)) (hg : Blk w g 31 cs) :
    (results fn tmps).run Tryz.prog w = .ok (.agg cs) w := by
  have hp' : tmps[p]?.getD undef = .pointer (some ⟨g, 0, none⟩) := by simpa using hp
  have hl := run_loadVar_row w g 31 31 cs (0, 0) _ hg Tryz.underlying31 rfl (by rw [info_vt, hs])
  simp [results, h, hp', asAddr, hl]
set_option maxHeartbeats 8000000 in
set_option maxRecDepth 100000 in
theorem new_ref13 (w : World) : Calls Tryz.prog 6 #[] w fun e w' => ∃ la lb, e = .returned (.agg (vcl newV la lb)) ∧ OwnR w' (w.heap.size ≤ ·) la newV.a.l ∧ OwnR w' (w.heap.size ≤ ·) lb newV.b.l ∧ Below w.heap.size w w' := by
  obtain ⟨R, hR⟩ : ∃ R, R = w.heap.size := ⟨_, rfl⟩
  have z1 : (w.alloc (.cells zvcl 31)).heap.size = R + 1 := by rw [hR]; simp
  have hb1 : Below w.heap.size w (w.alloc (.cells zvcl 31)) := (Below.refl _ _).alloc (Nat.le_refl _) _
  have hBR := Blk.at_ hR.symm 31 zvcl
  obtain ⟨w1, hw1⟩ : ∃ u, u = w.alloc (.cells zvcl 31) := ⟨_, rfl⟩
  rw [← hw1] at z1 hb1 hBR
  have hb2 : Below w1.heap.size w1 (w1.alloc (.cells zvcl 31)) := (Below.refl _ _).alloc (Nat.le_refl _) _
  have hBV := Blk.at_ z1 31 zvcl
  have z2 : (w1.alloc (.cells zvcl 31)).heap.size = R + 2 := by simp [z1]
  obtain ⟨w2, hw2⟩ : ∃ u, u = w1.alloc (.cells zvcl 31) := ⟨_, rfl⟩
  rw [← hw2] at hb2 hBV z2
  have hBR2 := hBR.below hb2 hBR.lt
  have HB2 := Lib.hid (hb1.trans (hb2.mono hb1.size))
  have HBR2 := Lib.hid hBR2
  have HZ2 := Lib.hid z2
  obtain ⟨F, hF⟩ : ∃ F : Nat → Prop, F = fun k => R + 2 ≤ k := ⟨_, rfl⟩
  have hx : VX w2 F (R + 1) zvt (.slice none 0 0) (.slice none 0 0) := ⟨hBV, OwnK.nil _ _ _ _, OwnK.nil _ _ _ _, by rw [hF]; omega⟩
  have HX := Lib.hid hx
  have hw1' : w1 = w.alloc (.cells #[.string ⟨#[]⟩, .int .i64 0, .slice none 0 0, .int .i64 0, .string ⟨#[]⟩, .int .i64 0, .slice none 0 0, .int .i64 0, .int .i64 0, .int .i64 0] 31) := hw1
  have hw2' : w2 = w1.alloc (.cells #[.string ⟨#[]⟩, .int .i64 0, .slice none 0 0, .int .i64 0, .string ⟨#[]⟩, .int .i64 0, .slice none 0 0, .int .i64 0, .int .i64 0, .int .i64 0] 31) := hw2
  have HW1 := Lib.hid hw1'
  have HW2 := Lib.hid hw2'
  have HRR := Lib.hid hR
  have HZ1 := Lib.hid z1
  have HFF := Lib.hid hF
  have HG := Lib.hid fun u => gen_ref 0 (by decide) (by decide) u
  obtain ⟨v1, h1⟩ : ∃ x, x = ({ zvt with a := (appJ zvt.a (genR 0)).1 } : Vt) := ⟨_, rfl⟩
  obtain ⟨v2, h2⟩ : ∃ x, x = ({ v1 with a := (appJ v1.a sealR).1 } : Vt) := ⟨_, rfl⟩
  have hnv : newV = { v2 with a := (syncJ v2.a).1 } := by rw [h2, h1]; rfl
  have HA1 := Lib.hid fun u (G : Nat → Prop) l1 l2 (hx : VX u G (R + 1) zvt l1 l2) => appendA G (R + 1) zvt l1 l2 (genR 0) u hx (by decide) (by decide) (by rw [show (genR 0).body.length = 4 from opn.b4_len _]; decide)
  have HA2 := Lib.hid fun u (G : Nat → Prop) l1 l2 (hx : VX u G (R + 1) v1 l1 l2) => appendA G (R + 1) v1 l1 l2 sealR u hx (by rw [h1]; decide +kernel) (by rw [h1]; decide +kernel) (by decide)
  have HA3 := Lib.hid fun u (G : Nat → Prop) l1 l2 (hx : VX u G (R + 1) v2 l1 l2) => sync_o (slotA v2 l2) (R + 1) v2.a l1 u hx.joa (OwnR.rcv hx.a) (by rw [h2, h1]; decide +kernel) (by rw [h2, h1]; decide +kernel) (by rw [h2, h1]; decide +kernel)
  rw [← h1] at HA1
  rw [← h2] at HA2
  simp only [recv, sealR, show oct.tx [] = (⟨#[]⟩ : ByteArray) from rfl] at HA2
  rw [hnv]
  have HNV := Lib.hid hnv
  clear hR z1 hb1 hBR hw1 hb2 hBV z2 hw2 hBR2 hx hw1' hw2' hF h1 h2 hnv
  go_enter Tryz.func6, Tryz.ntmps6
  go_upto_region 1 with fail
  rw [← HW1.out, ← HRR.out]
  go_upto_region 2 with fail
  rw [← HW2.out, HZ1.out]
  go_upto_region 5 with (first
    | (go_at_call 26; (with_reducible refine (HG.out _).mono ?_); rintro e w3 ⟨rfl, hb3⟩; have H3 := Lib.hid (HX.out.same hb3); have HB3 := Lib.hid hb3; have HR3 := Lib.hid (HBR2.out.below hb3 HBR2.out.lt); clear hb3; obtain ⟨l3a, l3b, hx3, ht3⟩ := H3.out; have HX3 := Lib.hid hx3; clear hx3 ht3)
    | (go_at_call 25; (with_reducible refine (HA1.out _ _ _ _ HX3.out).mono ?_); rintro e w4 ⟨rfl, h4⟩; have H4 := Lib.hid h4; clear h4; obtain ⟨l4a, l4b, hx4, ht4⟩ := H4.out; have HX4 := Lib.hid hx4; have HT4 := Lib.hid ht4; clear hx4 ht4)
    | (go_at_call 25; (with_reducible refine (HA2.out _ _ _ _ HX4.out).mono ?_); rintro e w5 ⟨rfl, h5⟩; have H5 := Lib.hid h5; clear h5; obtain ⟨l5a, l5b, hx5, ht5⟩ := H5.out; have HX5 := Lib.hid hx5; have HT5 := Lib.hid ht5; clear hx5 ht5)
    | (go_at_call 27; (with_reducible refine (HA3.out _ _ _ _ HX5.out).mono ?_); rintro e w6 ⟨rfl, hj6, ht6⟩; have H6 := Lib.hid (HX5.out.setA hj6 (.inl ⟨rfl, rfl⟩) (ht6.mono fun k hk => .inl hk)); have HT6 := Lib.hid ht6; clear hj6 ht6))
  rw [← HNV.out] at H6
  obtain ⟨l6a, l6b, hx6, ht6⟩ := H6.out
  have hR4 := Blk.turn HR3.out HT4.out (by have := HR3.out.lt; omega)
  have hR5 := Blk.turn hR4 HT5.out (by have := hR4.lt; omega)
  have hR6 := Blk.turn hR5 HT6.out (by omega)
  have hld := load_blk hx6.blk Tryz.underlying31 (by rw [info_vt]; rfl)
  have hone : l6a.oneCell' = true ∧ l6b.oneCell' = true := by
    obtain ⟨_, _, e1⟩ := OwnK.form hx6.a
    obtain ⟨_, _, e2⟩ := OwnK.form hx6.b
    rw [e1, e2]
    exact ⟨rfl, rfl⟩
  have hst := store_blk (ty := 31) (cs := vcl newV l6a l6b) hR6 (by rw [info_vt]; rfl) rfl (vcl_one hone.1 hone.2)
  obtain ⟨cs, hcs⟩ : ∃ cs, cs = vcl newV l6a l6b := ⟨_, rfl⟩
  have hcsz : cs.size = 10 := by rw [hcs]; rfl
  rw [← hcs] at hld hst
  have HX6 := Lib.hid hx6
  have HR6 := Lib.hid hR6
  have HCS := Lib.hid hcs
  clear hx6 ht6 hR4 hR5 hR6 hone hcs
  go_wp2_with (first
    | ((with_reducible refine step_load (t := 31) (x := .tmp 1) (p := ?lpn1) (v := ?lvn1) ?lgn1 ?lon1 ?lxn1 ?lrn1 ?lhn1); (case lgn1 => rfl); (case lon1 => rfl); (case lxn1 => rfl); (case lrn1 => exact hld))
    | ((with_reducible refine step_store_run (t := 31) (x := .tmp 0) (y := .tmp 11) (p := ?spn2) (v := ?svn2) (w' := ?swn2) ?sgn2 ?son2 ?sxn2 ?syn2 ?srn2 ?shn2); (case sgn2 => rfl); (case son2 => rfl); (case sxn2 => rfl); (case syn2 => rfl); (case srn2 => exact hst)))
  refine bodyPost_ret (results_v1 rfl _ _ R cs hcsz rfl (setRow_heap _ _ _ _ _ _ HR6.out)) rfl ?_
  rw [HCS.out]
  have hrt := row_turn w6 R (vcl newV l6a l6b)
  have hs3 := HB3.out.size
  have hs4 := HT4.out.size
  have hs5 := HT5.out.size
  have hs6 := HT6.out.size
  have hz2 := HZ2.out
  have hge : ∀ k, (((((F k ∨ w2.heap.size ≤ k) ∨ w3.heap.size ≤ k) ∨ w4.heap.size ≤ k)) ∨ w5.heap.size ≤ k) → R + 2 ≤ k := by
    rw [HFF.out]
    intro k hk
    omega
  have hXa := HX6.out.a
  have hXb := HX6.out.b
  rw [HNV.out] at hXa hXb
  refine ⟨l6a, l6b, by rw [HNV.out], ?_, ?_, ?_⟩
  · exact ornp (ornt hXa hrt fun k hk _ e => by have := hge k hk; omega) fun k hk => by have := hge k hk; have := HRR.out; omega
  · exact ornp (ornt hXb hrt fun k hk _ e => by have := hge k hk; omega) fun k hk => by have := hge k hk; have := HRR.out; omega
  · have hrr := HRR.out
    have h23 : Below w.heap.size w w3 := HB2.out.trans (HB3.out.mono (by omega))
    exact ((((h23.trans (HT4.out.below fun k hk => by omega)).trans (HT5.out.below fun k hk => by omega)).trans (HT6.out.below fun k hk => by omega))).trans (hrt.below fun k hk => by omega)
end Go.Proofs.YtkbbeioednhefaaGreatDoor.vt

namespace Go.Proofs.YtkbbeioednhefaaGreatDoor.vt
open Go.RowKit Go.Proofs.YtkbbeioednhefaaGreatDoor.mem Go.Proofs.YtkbbeioednhefaaGreatDoor.sha Go.Proofs.YtkbbeioednhefaaGreatDoor.strx Go.Proofs.YtkbbeioednhefaaGreatDoor.rows Go.Proofs.YtkbbeioednhefaaGreatDoor.ids Go.Proofs.YtkbbeioednhefaaGreatDoor.rcd Go.Proofs.YtkbbeioednhefaaGreatDoor.jn Go.Proofs.YtkbbeioednhefaaGreatDoor.txl

section
variable {T : World → Prop} {Vt_ : (Nat → Prop) → World → Value → Vt → Prop}
/-- the program's vault at p stands as v, the plain one in block X as x; all new since w0 -/
structure PV (T : World → Prop) (Vt_ : (Nat → Prop) → World → Value → Vt → Prop) (w0 : World) (G : Nat → Prop) (X : Nat) (p : Value) (v x : Vt) (la lb : Value) (w : World) : Prop where
  vs : VS T Vt_ w0 G p v w
  vx : VX w (fun k => w0.heap.size ≤ k ∧ ¬ G k ∧ k ≠ X) X x la lb
  gx : ¬ G X
  xge : w0.heap.size ≤ X
variable {w0 w w' : World} {G G' : Nat → Prop} {X : Nat} {p la lb : Value} {v v' x x' : Vt}
theorem PV.sub (h : VX w (fun k => w0.heap.size ≤ k ∧ ¬ G k ∧ k ≠ X) X x la lb) (hg : ∀ k, G' k → G k) (ht : Turn G w w') (gx : ¬ G X) : VX w' (fun k => w0.heap.size ≤ k ∧ ¬ G' k ∧ k ≠ X) X x la lb :=
  ⟨Blk.turn h.blk ht gx, ornp (ornt h.a ht fun k hk _ hh => hk.2.1 hh) fun k hk => ⟨hk.1, fun hh => hk.2.1 (hg k hh), hk.2.2⟩, ornp (ornt h.b ht fun k hk _ hh => hk.2.1 hh) fun k hk => ⟨hk.1, fun hh => hk.2.1 (hg k hh), hk.2.2⟩, fun hh => hh.2.2 rfl⟩
theorem PV.op (hI : VtIs T Vt_) (hT : T w0) (h : PV T Vt_ w0 G X p v x la lb w) (hv : Vt_ G w' p v') (ht : Turn G w w') : PV T Vt_ w0 G X p v' x la lb w' :=
  ⟨h.vs.op hI hT hv ht, PV.sub h.vx (fun _ hk => hk) ht h.gx, h.gx, h.xge⟩
theorem PV.left (hI : VtIs T Vt_) (hT : T w0) (h : PV T Vt_ w0 G X p v x la lb w) {l : Value} {L : List (List UInt8)} (hl : Left Vt_ G w p v' l L w') :
    ∃ G', PV T Vt_ w0 G' X p v' x la lb w' ∧ (∀ k, G' k → G k) ∧ TxA w' (fun k => ¬ G' k ∧ k ≠ X) l L ∧ Turn G w w' := by
  obtain ⟨G', h1, h2, h3, h4, h5⟩ := hl
  have hB := h.vs.below.trans (h5.below h.vs.g)
  exact ⟨G', ⟨⟨hI.next hT hB, h2, h1, fun k hk => h.vs.g k (h3 k hk), hB⟩, PV.sub h.vx h3 h5 h.gx, fun hh => h.gx (h3 X hh), h.xge⟩, h3, h4.mono fun k _ hk => ⟨hk.2, fun e => h.gx (e ▸ hk.1)⟩, h5⟩
theorem PV.next (hI : VtIs T Vt_) (h : PV T Vt_ w0 G X p v x la lb w) (hb : Below w.heap.size w w') : PV T Vt_ w0 G X p v x la lb w' :=
  ⟨h.vs.next hI hb, h.vx.next hb, h.gx, h.xge⟩
/-- the law's own memory, laid beside -/
theorem PV.beside (hI : VtIs T Vt_) (hT : T w0) (h : PV T Vt_ w0 G X p v x la lb w) (hb : Below w.heap.size w w') :
    ∃ G', PV T Vt_ w0 G' X p v x la lb w' ∧ (∀ k, G' k → G k) ∧ (∀ k, G' k → k < w.heap.size ∨ w'.heap.size ≤ k) := by
  obtain ⟨G', hjs, h1, h2⟩ := h.vs.aside hI hT (F := (w.heap.size ≤ ·)) (Turn.ofBelow hb) (fun k hk hf => by omega) (fun k hf => Nat.le_trans h.vs.below.size hf)
  have hx := h.vx.next hb
  exact ⟨G', ⟨hjs, ⟨hx.blk, ornp hx.a fun k hk => ⟨hk.1, fun hh => hk.2.1 (h1 k hh), hk.2.2⟩, ornp hx.b fun k hk => ⟨hk.1, fun hh => hk.2.1 (h1 k hh), hk.2.2⟩, fun hh => hh.2.2 rfl⟩, fun hh => h.gx (h1 X hh), h.xge⟩, h1, h2⟩
/-- what the plain one does -/
theorem PV.ofX (hI : VtIs T Vt_) (hT : T w0) (h : PV T Vt_ w0 G X p v x la lb w) (hx : VXR w (fun k => w0.heap.size ≤ k ∧ ¬ G k ∧ k ≠ X) X x' w') :
    ∃ G' la' lb', PV T Vt_ w0 G' X p v x' la' lb' w' ∧ (∀ k, G' k → G k) ∧ (∀ k, G' k → k < w.heap.size ∨ w'.heap.size ≤ k) ∧ Turn (fun k => k = X ∨ w.heap.size ≤ k) w w' := by
  have hl := h.vx.blk.lt
  have hz := h.vs.below.size
  obtain ⟨la', lb', hx, ht⟩ := hx
  obtain ⟨G', hjs, h1, h2⟩ := h.vs.aside hI hT ht (fun k hk hf hg => hf.elim (fun e => h.gx (e ▸ hg)) (fun e => by omega)) (fun k hf => hf.elim (fun e => by rw [e]; exact h.xge) (fun e => Nat.le_trans hz e))
  have key : ∀ {L : List Rc} {lv : Value}, OwnR w' (fun k => (w0.heap.size ≤ k ∧ ¬ G k ∧ k ≠ X) ∨ w.heap.size ≤ k) lv L → OwnR w' (fun k => w0.heap.size ≤ k ∧ ¬ G' k ∧ k ≠ X) lv L := fun {L lv} ho => OwnK.place ho fun k hk => by
    have hlt := OwnK.lt ho hk
    rcases ho.2.2 k hk with e | e
    · exact ⟨e.1, fun hh => e.2.1 (h1 k hh), e.2.2⟩
    · exact ⟨by omega, fun hh => by have := h2 k hh; omega, by omega⟩
  exact ⟨G', la', lb', ⟨hjs, ⟨hx.blk, key hx.a, key hx.b, fun hh => hh.2.2 rfl⟩, fun hh => h.gx (h1 X hh), h.xge⟩, h1, h2, ht⟩
set_option maxHeartbeats 8000000 in
set_option maxRecDepth 100000 in
theorem alike_any (hI : VtIs T Vt_) (hT : T w0) (h : PV T Vt_ w0 G X p v v la lb w) (hu : v.use = 0 ∨ v.use = 1) :
    Calls Tryz.prog 19 #[p, .pointer (some ⟨X, 0, none⟩)] w fun e w' => e = .returned (.bool true) ∧ Below w.heap.size w w' := by
  have HI := Lib.hid hI
  have H := Lib.hid h
  obtain ⟨ta, hta⟩ : ∃ t, t = oct.tx v.a.s := ⟨_, rfl⟩
  obtain ⟨tb, htb⟩ : ∃ t, t = oct.tx v.b.s := ⟨_, rfl⟩
  have hza : ta.size = v.a.s.length := by rw [hta, oct.tx_size]
  have hzb : tb.size = v.b.s.length := by rw [htb, oct.tx_size]
  have HUS := Lib.hid fun u (h : PV T Vt_ w0 G X p v v la lb u) => hI.use G p v u h.vs.t h.vs.v
  have HFI := Lib.hid fun u (h : PV T Vt_ w0 G X p v v la lb u) => hI.files G p v u h.vs.t h.vs.v
  have HSZ := Lib.hid fun u (h : PV T Vt_ w0 G X p v v la lb u) => hI.size G p v u h.vs.t h.vs.v
  rw [show bt v.a.s = ta from hta.symm, show bt v.b.s = tb from htb.symm] at HFI
  have HCC : Hid (∀ u, PV T Vt_ w0 G X p v v la lb u → u.cell? ⟨X, 0, none⟩ = some (.string ta) ∧ u.cell? ⟨X, 4, none⟩ = some (.string tb) ∧ u.cell? ⟨X, 8, none⟩ = some (.int .i64 v.use) ∧ u.cell? ⟨X, 9, none⟩ = some (.int .i64 v.no)) := Lib.hid fun u hx => by
    rw [hta, htb]
    exact ⟨hx.vx.blk.cell 0, hx.vx.blk.cell 4, hx.vx.blk.cell 8, hx.vx.blk.cell 9⟩
  have hcur : (v.use = 0 → v.cur = v.a) ∧ (v.use = 1 → v.cur = v.b) := ⟨fun e => by unfold Vt.cur; rw [if_pos e], fun e => by unfold Vt.cur; rw [if_neg (by omega)]⟩
  rcases hu with hu | hu
  · rw [hcur.1 hu, ← hza] at HSZ
    rw [hu] at HUS HCC
    clear hI hT h hta htb hza hzb hcur hu
    go_enter Tryz.func19, Tryz.ntmps19
    go_wp2_with (first
      | (go_at_call 41; (with_reducible refine (HUS.out _ H.out).mono ?_); rintro e w1 ⟨rfl, hb1⟩; have H1 := Lib.hid (H.out.next HI.out hb1); have HB1 := Lib.hid hb1; clear hb1)
      | (go_at_call 34; (with_reducible refine (HFI.out _ H1.out).mono ?_); rintro e w2 ⟨rfl, hb2⟩; have H2 := Lib.hid (H1.out.next HI.out hb2); have HB2 := Lib.hid (HB1.out.trans (hb2.mono HB1.out.size)); clear hb2; obtain ⟨k0, k4, k8, k9⟩ := HCC.out _ H2.out)
      | (go_at_call 42; (with_reducible refine (HSZ.out _ H2.out).mono ?_); rintro e w3 ⟨rfl, hb3⟩; have HB3 := Lib.hid (HB2.out.trans (hb3.mono HB2.out.size)); clear hb3))
    go_ret
    exact ⟨rfl, HB3.out⟩
  · rw [hcur.2 hu, ← hzb] at HSZ
    rw [hu] at HUS HCC
    clear hI hT h hta htb hza hzb hcur hu
    go_enter Tryz.func19, Tryz.ntmps19
    go_wp2_with (first
      | (go_at_call 41; (with_reducible refine (HUS.out _ H.out).mono ?_); rintro e w1 ⟨rfl, hb1⟩; have H1 := Lib.hid (H.out.next HI.out hb1); have HB1 := Lib.hid hb1; clear hb1)
      | (go_at_call 34; (with_reducible refine (HFI.out _ H1.out).mono ?_); rintro e w2 ⟨rfl, hb2⟩; have H2 := Lib.hid (H1.out.next HI.out hb2); have HB2 := Lib.hid (HB1.out.trans (hb2.mono HB1.out.size)); clear hb2; obtain ⟨k0, k4, k8, k9⟩ := HCC.out _ H2.out)
      | (go_at_call 42; (with_reducible refine (HSZ.out _ H2.out).mono ?_); rintro e w3 ⟨rfl, hb3⟩; have HB3 := Lib.hid (HB2.out.trans (hb3.mono HB2.out.size)); clear hb3))
    go_ret
    exact ⟨rfl, HB3.out⟩
end
end Go.Proofs.YtkbbeioednhefaaGreatDoor.vt

namespace Go.Proofs.YtkbbeioednhefaaGreatDoor.vt
open Go.RowKit Go.Proofs.YtkbbeioednhefaaGreatDoor.mem Go.Proofs.YtkbbeioednhefaaGreatDoor.rcd Go.Proofs.YtkbbeioednhefaaGreatDoor.jn

structure Bd (i : Nat) (v : Vt) : Prop where
  w : Wf v.a ∧ Wf v.b
  u : v.use = 0 ∨ v.use = 1
  n : 0 ≤ v.no
  sa : v.a.s.length ≤ 20000 + 309 * i
  la : v.a.l.length ≤ 5000 + i
  sb : v.b.s.length ≤ 20000 + 309 * i
  lb : v.b.l.length ≤ 5000 + i
variable {i : Nat} {v : Vt}
theorem Bd.sz (h : Bd i v) (hi : i ≤ 60) : SzV v := ⟨h.w, h.u, h.n, by have := h.la; omega, by have := h.sa; omega, by have := h.lb; omega, by have := h.sb; omega⟩
theorem Bd.small (h : Bd i v) (hi : i ≤ 60) : smallV v := ⟨by have := h.sa; omega, by have := h.sb; omega⟩
theorem Bd.more (h : Bd i v) {j : Nat} (hij : i ≤ j) : Bd j v := ⟨h.w, h.u, h.n, by have := h.sa; omega, by have := h.la; omega, by have := h.sb; omega, by have := h.lb; omega⟩
/-- the file in use is another journal -/
theorem Bd.set (h : Bd i v) (j : Jr) (hw : Wf j) (hs : j.s.length ≤ 20000 + 309 * i) (hl : j.l.length ≤ 5000 + i) : Bd i (v.set j) := by
  unfold Vt.set
  split
  · exact ⟨⟨hw, h.w.2⟩, h.u, h.n, hs, hl, h.sb, h.lb⟩
  · exact ⟨⟨h.w.1, hw⟩, h.u, h.n, h.sa, h.la, hs, hl⟩
theorem Bd.oth (h : Bd i v) (j : Jr) (hw : Wf j) (hs : j.s.length ≤ 20000 + 309 * i) (hl : j.l.length ≤ 5000 + i) : Bd i (v.oth j) := by
  unfold Vt.oth
  split
  · exact ⟨⟨h.w.1, hw⟩, h.u, h.n, h.sa, h.la, hs, hl⟩
  · exact ⟨⟨hw, h.w.2⟩, h.u, h.n, hs, hl, h.sb, h.lb⟩
theorem Bd.cur (h : Bd i v) : Wf v.cur ∧ v.cur.s.length ≤ 20000 + 309 * i ∧ v.cur.l.length ≤ 5000 + i := by
  unfold Vt.cur
  split
  · exact ⟨h.w.1, h.sa, h.la⟩
  · exact ⟨h.w.2, h.sb, h.lb⟩
theorem Bd.app (h : Bd i v) {s : List UInt8} (hs : s.length ≤ 300) : Bd (i + 1) (appV v s).1 := by
  unfold appV
  rw [if_neg (by omega)]
  obtain ⟨h1, h2, h3⟩ := h.cur
  have hg := appJ_grow v.cur (entR s)
  have hb : (entR s).body.length ≤ 300 := hs
  exact (h.more (Nat.le_succ i)).set _ (h1.app _) (by omega) (by omega)
theorem Bd.sync (h : Bd i v) : Bd i (syncV v).1 := by
  obtain ⟨h1, h2, h3⟩ := h.cur
  exact h.set _ (Wf.sync _) h2 h3
theorem open_bd (s : List UInt8) (i : Nat) (hi : i ≤ 60) (hs : s.length ≤ 20000 + 309 * i) : Wf (openJ s) ∧ (openJ s).s.length ≤ 20000 + 309 * i ∧ (openJ s).l.length ≤ 5000 + i := by
  have h1 := openJ_len s
  have h2 := allR_few s.length s
  have h3 : (openJ s).l = (allR s.length s).1 := rfl
  refine ⟨Wf.open s, by omega, ?_⟩
  rw [h3]
  omega
theorem Bd.load (s t : List UInt8) (i : Nat) (hi : i ≤ 60) (hs : s.length ≤ 20000 + 309 * i) (ht : t.length ≤ 20000 + 309 * i) : Bd i (loadV s t).1 := by
  obtain ⟨a1, a2, a3⟩ := open_bd s i hi hs
  obtain ⟨b1, b2, b3⟩ := open_bd t i hi ht
  unfold loadV
  split
  · exact ⟨⟨⟨Nat.le_refl _, Nat.le_refl _⟩, ⟨Nat.le_refl _, Nat.le_refl _⟩⟩, .inl rfl, Int.le_refl _, Nat.zero_le _, Nat.zero_le _, Nat.zero_le _, Nat.zero_le _⟩
  · rename_i hn
    unfold noneV at hn
    have ha := numV_lt (openJ s).l
    have hb := numV_lt (openJ t).l
    unfold pickV
    split
    · exact ⟨⟨a1, b1⟩, .inr rfl, by show 0 ≤ numV (openJ t).l; omega, a2, a3, b2, b3⟩
    · exact ⟨⟨a1, b1⟩, .inl rfl, by show 0 ≤ numV (openJ s).l; omega, a2, a3, b2, b3⟩
theorem Bd.again (h : Bd i v) (hi : i ≤ 60) : Bd i (againV v).1 := Bd.load _ _ i hi h.sa h.sb
theorem Bd.crash (h : Bd i v) (hi : i ≤ 60) (n : Int) : Bd i (crashV v n).1 := by
  obtain ⟨h1, h2, h3⟩ := h.cur
  have hl := crashJ_len v.cur n h1
  have hc := (bk.crashB_le v.cur.s v.cur.k n h1.k).2
  obtain ⟨a1, a2, a3⟩ := open_bd (bk.crashB v.cur.s v.cur.k n).1 i hi (by omega)
  exact (h.set (crashJ v.cur n) a1 a2 a3).again hi
theorem Bd.snap (h : Bd i v) {L : List (List UInt8)} (hL : smallL L) : Bd i (snapV v L).1 := by
  unfold snapV
  split
  · exact h
  · have hz := lay_size v.no L hL
    have h1 := h.sync.oth (syncJ (layJ v.no L)).1 (Wf.sync _) (by show (layJ v.no L).s.length ≤ _; omega) (by show (layJ v.no L).l.length ≤ _; omega)
    have hu := h.u
    have hn := h.n
    exact ⟨h1.w, by show 1 - v.use = 0 ∨ 1 - v.use = 1; omega, by show 0 ≤ v.no + 1; omega, h1.sa, h1.la, h1.sb, h1.lb⟩
theorem Bd.die (h : Bd i v) (hi : i ≤ 60) {L : List (List UInt8)} (hL : smallL L) (n : Int) : Bd i (dieV v L n).1 := by
  unfold dieV
  split
  · exact h
  · have hz := lay_size v.no L hL
    have hw := lay_wf v.no L
    have hc := (bk.crashB_le (layJ v.no L).s (layJ v.no L).k n hw.k).2
    obtain ⟨a1, a2, a3⟩ := open_bd (bk.crashB (layJ v.no L).s (layJ v.no L).k n).1 i hi (by omega)
    exact (h.sync.oth (crashJ (layJ v.no L) n) a1 a2 a3).again hi
theorem load_len (s t : List UInt8) (i : Nat) (hi : i ≤ 60) (hs : s.length ≤ 20000 + 309 * i) (ht : t.length ≤ 20000 + 309 * i) : (loadV s t).2.1.length ≤ 1000000 := by
  obtain ⟨_, _, a3⟩ := open_bd s i hi hs
  obtain ⟨_, _, b3⟩ := open_bd t i hi ht
  unfold loadV
  split
  · exact Nat.zero_le _
  · show (heldV (pickV _ _).cur.l).length ≤ _
    have h1 : (heldV (pickV (openJ s) (openJ t)).cur.l).length ≤ (pickV (openJ s) (openJ t)).cur.l.length := by unfold heldV; rw [List.length_map]; exact List.length_filter_le _ _
    have h2 : (pickV (openJ s) (openJ t)).cur.l.length ≤ 5000 + i := by
      unfold pickV Vt.cur
      split
      · simp only [show ¬ ((1 : Int) = 0) by decide, if_false]; omega
      · simp only [if_true]; omega
    omega
theorem Bd.again_len (h : Bd i v) (hi : i ≤ 60) : (againV v).2.length ≤ 1000000 := load_len _ _ i hi h.sa h.sb
theorem Bd.crash_len (h : Bd i v) (hi : i ≤ 60) (n : Int) : (crashV v n).2.length ≤ 1000000 := by
  obtain ⟨h1, h2, h3⟩ := h.cur
  have hc := (bk.crashB_le v.cur.s v.cur.k n h1.k).2
  obtain ⟨a1, a2, a3⟩ := open_bd (bk.crashB v.cur.s v.cur.k n).1 i hi (by omega)
  exact (h.set (crashJ v.cur n) a1 a2 a3).again_len hi
theorem Bd.die_len (h : Bd i v) (hi : i ≤ 60) {L : List (List UInt8)} (hL : smallL L) (n : Int) : (dieV v L n).2.1.length ≤ 1000000 := by
  unfold dieV
  split
  · exact Nat.zero_le _
  · have hz := lay_size v.no L hL
    have hw := lay_wf v.no L
    have hc := (bk.crashB_le (layJ v.no L).s (layJ v.no L).k n hw.k).2
    obtain ⟨a1, a2, a3⟩ := open_bd (bk.crashB (layJ v.no L).s (layJ v.no L).k n).1 i hi (by omega)
    exact (h.sync.oth (crashJ (layJ v.no L) n) a1 a2 a3).again_len hi
theorem bd_new : Bd 0 newV := by
  rw [new_file]
  have := fileJ_len (firstG []) 2 (first_body (l := []) (fun s hs => by cases hs))
  have hl : (firstG []).length = 2 := rfl
  rw [hl] at this
  have h1 : (fileJ (firstG []) 2).s.length ≤ 20000 + 309 * 0 := Nat.le_trans this (by decide)
  have h2 : (firstG []).length ≤ 5000 + 0 := by rw [hl]; decide
  have h3 : (enL ((firstG []).take 2)).length ≤ (enL (firstG [])).length := by
    rw [List.take_of_length_le (by rw [hl]; decide)]
    exact Nat.le_refl _
  have h4 : 2 ≤ (firstG []).length := by rw [hl]; decide
  have hj : Wf j0 := ⟨Nat.le_refl _, Nat.le_refl _⟩
  have hs : j0.s.length ≤ 20000 + 309 * 0 := by rw [show j0.s.length = 0 from rfl]; exact Nat.zero_le _
  have hl0 : j0.l.length ≤ 5000 + 0 := by rw [show j0.l.length = 0 from rfl]; exact Nat.zero_le _
  have hf : Wf (fileJ (firstG []) 2) := ⟨h3, h4⟩
  generalize hF : fileJ (firstG []) 2 = fj at *
  have h5 : fj.l.length ≤ 5000 + 0 := by rw [← hF]; exact h2
  generalize j0 = j at *
  exact ⟨⟨hf, hj⟩, .inl rfl, Int.le_refl _, h1, h5, hs, hl0⟩
end Go.Proofs.YtkbbeioednhefaaGreatDoor.vt

namespace Go.Proofs.YtkbbeioednhefaaGreatDoor.vt
open Go.RowKit Go.Proofs.YtkbbeioednhefaaGreatDoor.mem Go.Proofs.YtkbbeioednhefaaGreatDoor.sha Go.Proofs.YtkbbeioednhefaaGreatDoor.strx Go.Proofs.YtkbbeioednhefaaGreatDoor.rows Go.Proofs.YtkbbeioednhefaaGreatDoor.ids Go.Proofs.YtkbbeioednhefaaGreatDoor.txl

def longV (s : Nat) (L : List (List UInt8)) : Bool := (L.take 20).any (fun x => decide (300 < x.length)) || (decide (300 < s) || decide (20 < L.length))
theorem long_no {s : Nat} {L : List (List UInt8)} (h : longV s L = false) : s ≤ 300 ∧ L.length ≤ 20 ∧ ∀ x ∈ L, x.length ≤ 300 := by
  unfold longV at h
  rw [Bool.or_eq_false_iff, Bool.or_eq_false_iff] at h
  obtain ⟨h1, h2, h3⟩ := h
  have h2 := of_decide_eq_false h2
  have h3 := of_decide_eq_false h3
  refine ⟨by omega, by omega, fun x hx => ?_⟩
  rw [List.take_of_length_le (by omega)] at h1
  have := List.any_eq_false.1 h1 x hx
  simp only [decide_eq_true_eq] at this
  omega
theorem any_take_succ (L : List (List UInt8)) (i : Nat) (h : i < L.length) (f : List UInt8 → Bool) : (L.take (i + 1)).any f = ((L.take i).any f || f (L.getD i [])) := by
  rw [List.take_succ_eq_append_getElem h, List.any_append, List.getD_eq_getElem?_getD, List.getElem?_eq_getElem h]
  simp
theorem any_take_le (L : List (List UInt8)) {i j : Nat} (h : i ≤ j) (f : List UInt8 → Bool) (hi : (L.take i).any f = true) : (L.take j).any f = true := by
  obtain ⟨x, hx, hf⟩ := List.any_eq_true.1 hi
  refine List.any_eq_true.2 ⟨x, ?_, hf⟩
  rw [← Nat.min_eq_left h, ← List.take_take] at hx
  exact List.mem_of_mem_take hx
set_option maxHeartbeats 4000000 in
set_option maxRecDepth 100000 in
theorem long_any {N : Nat → Prop} {v : Value} {L : List (List UInt8)} {w : World} (K n : Int) (s : ByteArray) (hR : TxA w N v L) (hl : L.length ≤ 9223372036854775807) :
    Calls Tryz.prog 7 #[.agg #[.int .i64 K, .string s, v, .int .i64 n]] w fun e w' => e = .returned (.bool (longV s.size L)) ∧ Below w.heap.size w w' := by
  obtain ⟨ad, cap, rfl, hC⟩ := hR
  obtain ⟨ans, hans⟩ : ∃ a, a = longV s.size L := ⟨_, rfl⟩
  rw [← hans]
  have HANS := Lib.hid hans
  have HC := Lib.hid hC
  obtain ⟨m, hm⟩ : ∃ m, m = L.length := ⟨_, rfl⟩
  have HM := Lib.hid hm
  rw [← hm] at hl ⊢
  have m0 : (0 : Int) ≤ (m : Int) := Int.natCast_nonneg _
  have hb : Below w.heap.size w (w.alloc (.cells #[.int .i64 K, .string s, .slice ad m cap, .int .i64 n] 35)) := (Below.refl _ w).alloc (Nat.le_refl _) _
  have hB := Blk.new w 35 #[.int .i64 K, .string s, .slice ad m cap, .int .i64 n]
  obtain ⟨u, hu⟩ : ∃ u, u = w.alloc (.cells #[.int .i64 K, .string s, .slice ad m cap, .int .i64 n] 35) := ⟨_, rfl⟩
  rw [← hu] at hb hB
  have HB := Lib.hid hb
  have c1 : u.cell? ⟨w.heap.size, 1, none⟩ = some (.string s) := hB.cell 1
  have c2 : u.cell? ⟨w.heap.size, 2, none⟩ = some (.slice ad m cap) := hB.cell 2
  have HU := Lib.hid hu
  clear hans hC hm hb hB hu
  go_enter Tryz.func7, Tryz.ntmps7
  go_upto_region 1 with fail
  rw [← HU.out]
  go_wp2_with fail
  go_loopg [4] 21 (fun gk s4 wr => u = wr ∧ ∃ i : Nat, s4 = .int .i64 i ∧ i ≤ m ∧ i ≤ 20 ∧ 20 - i < gk ∧ Hid ((L.take i).any (fun x => decide (300 < x.length)) = false))
  case atStart => exact ⟨rfl, 0, rfl, Nat.zero_le _, Nat.zero_le _, by omega, Lib.hid rfl⟩
  case round =>
    obtain ⟨rfl, i, rfl, hi, hi20, hgk, HE⟩ := hrel
    have i0 : (0 : Int) ≤ (i : Int) := Int.natCast_nonneg _
    by_cases hlt : i < m ∧ i < 20
    · obtain ⟨hin, hi2⟩ := hlt
      have i1 : (i : Int) < (m : Int) := by omega
      have i2 : (i : Int) < 20 := by omega
      obtain ⟨b, off, rfl, hbl, _, a0⟩ := HC.out i (by have := HM.out; omega)
      replace a0 := (HB.out.cell (p := ⟨b, off + i, none⟩) hbl).trans a0
      obtain ⟨x, hx⟩ : ∃ x, x = L.getD i [] := ⟨_, rfl⟩
      rw [← hx] at a0
      have hz := bt_size x
      obtain ⟨t, ht⟩ : ∃ t, t = bt x := ⟨_, rfl⟩
      rw [← ht] at a0 hz
      have hsu := any_take_succ L i (by have := HM.out; omega) (fun x => decide (300 < x.length))
      rw [HE.out, Bool.false_or, ← hx] at hsu
      by_cases hb3 : 300 < x.length
      · have hbz : (300 : Int) < (t.size : Int) := by omega
        have hA : ans = true := by
          rw [HANS.out]
          unfold longV
          rw [any_take_le L (show i + 1 ≤ 20 by omega) _ (hsu.trans (decide_eq_true hb3)), Bool.true_or]
        have HA := Lib.hid hA
        clear hx ht hz hsu hA
        go_wp2_with fail
        go_ret
        exact ⟨by rw [HA.out]; rfl, HB.out⟩
      · have hbz : ¬ (300 : Int) < (t.size : Int) := by omega
        have HS := Lib.hid (hsu.trans (decide_eq_false hb3))
        clear hx ht hz hsu
        go_wp2_with fail
        go_roundg (20 - i)
        case measure => omega
        case rel => exact ⟨rfl, i + 1, by go_num, hin, hi2, by omega, HS⟩
    · have hE20 : (L.take 20).any (fun x => decide (300 < x.length)) = false := by
        by_cases h : i = m
        · rw [← HE.out, List.take_of_length_le (i := i) (by have := HM.out; omega), List.take_of_length_le (by have := HM.out; omega)]
        · rw [← HE.out, show i = 20 by omega]
      have hA : ans = (decide (300 < s.size) || decide (20 < m)) := by
        rw [HANS.out, HM.out]
        unfold longV
        rw [hE20, Bool.false_or]
      have HA := Lib.hid hA
      clear hE20 hA
      by_cases hs : 300 < s.size
      · have hsz : (300 : Int) < (s.size : Int) := by omega
        have HAT := Lib.hid (show ans = true by rw [HA.out, decide_eq_true hs, Bool.true_or])
        clear hs
        by_cases hin : (i : Int) < (m : Int)
        · have hi6 : ¬ (i : Int) < 20 := by omega
          go_wp2_with fail
          go_ret
          exact ⟨by rw [HAT.out]; rfl, HB.out⟩
        · go_wp2_with fail
          go_ret
          exact ⟨by rw [HAT.out]; rfl, HB.out⟩
      · have hsz : ¬ (300 : Int) < (s.size : Int) := by omega
        by_cases hm2 : 20 < m
        · have hmz : (20 : Int) < (m : Int) := by omega
          have HAT := Lib.hid (show ans = true by rw [HA.out, decide_eq_true hm2, Bool.or_true])
          have hin : (i : Int) < (m : Int) := by omega
          have hi6 : ¬ (i : Int) < 20 := by omega
          clear hs hm2
          go_wp2_with fail
          go_ret
          exact ⟨by rw [HAT.out]; rfl, HB.out⟩
        · have hmz : ¬ (20 : Int) < (m : Int) := by omega
          have HAT := Lib.hid (show ans = false by rw [HA.out, decide_eq_false hm2, decide_eq_false hs]; rfl)
          have hin : ¬ (i : Int) < (m : Int) := by omega
          clear hs hm2
          go_wp2_with fail
          go_ret
          exact ⟨by rw [HAT.out]; rfl, HB.out⟩
end Go.Proofs.YtkbbeioednhefaaGreatDoor.vt
