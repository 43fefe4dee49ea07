/-
  The landed msg: read.
-/
import Derived.Test.YtbfjljbllfjicaaMla
import Derived.Test.YtbfjljbllfjicaaMsis
import Derived.Test.YtbfjljbllfjicaaWib
import Derived.Test.YtbfjljbllfjicaaOctst
namespace Go.Proofs.Ytbfjljbllfjicaa.msg
open Go.RowKit Go.Proofs.Ytbfjljbllfjicaa.mem Go.Proofs.Ytbfjljbllfjicaa.sha Go.Proofs.Ytbfjljbllfjicaa.ids
open Go.Proofs.Ytbfjljbllfjicaa.opn (b1 b2 b4 num txt idl byte rd rdN rdT rdI rdS rdL rdS' St Reads Stays endE zid mkId RdL Sr rids_s rdS'_le)

theorem lsr_text {x : ByteArray × Int} {st : St} (h : Sr x st) : (oct.rText x 65535).1 = oct.tx (rdT2 st).1 ∧ Sr (oct.rText x 65535).2 (rdT2 st).2 := by
  have hn := opn.lsr_num h 2 (.inr (.inl rfl))
  have hn1 : (oct.rNum x 2).1 = (rdN 2 st).1 := hn.1
  have hn2 : Sr (oct.rNum x 2).2 (rdN 2 st).2 := hn.2
  have hlt := opn.rdN2_lt st
  have h0 := opn.rdN_nonneg 2 st
  unfold oct.rText rdT2
  rw [if_neg (by rw [hn1]; omega)]
  have := opn.lsr_take hn2 (rdN 2 st).1.toNat
  rw [Int.toNat_of_nonneg h0, ← hn1] at this
  rw [← hn1]
  exact this
theorem ltext_s (F : Nat → Prop) (g : Nat) (st : St) (w : World) (h : RdL w g st) (hF : F g) (hn : New F w) :
    Calls Try.prog 52 #[.pointer (some ⟨g, 0, none⟩), .int .i64 65535] w fun e w' => e = .returned (.string (oct.tx (rdT2 st).1)) ∧ RdL w' g (rdT2 st).2 ∧ Turn F w w' := by
  obtain ⟨s, e, hx, hs, hz⟩ := h
  refine (oct.rtext_any F g s e 65535 w hx hF hn hz).mono ?_
  rintro e2 w2 ⟨rfl, h2, ht⟩
  have := lsr_text hs
  refine ⟨by rw [this.1], ⟨_, _, h2, this.2, ?_⟩, ht⟩
  unfold oct.rText
  split
  · split
    · exact Nat.le_trans (oct.rNum_le (s, e) 2) hz
    · exact Nat.zero_le _
  · exact Nat.le_trans (oct.rTake_le _ _).2 (Nat.le_trans (oct.rNum_le (s, e) 2) hz)
theorem results_mg1 {fn : Func} {p : Tmp} (h : fn.results = #[.cell p 24]) (tmps : Array Value) (w : World) (g : Nat) (t : TypeId) (m : Mg) (v : Value)
    (hp : tmps.getD p undef = .pointer (some ⟨g, 0, none⟩)) (hg : Blk w g t #[.int .i64 m.k, v, .string (oct.tx m.body)]) :
    (results fn tmps).run Try.prog w = .ok (mgv m v) w := by
  have hp' : tmps[p]?.getD undef = .pointer (some ⟨g, 0, none⟩) := by simpa using hp
  have hl := run_loadVar_row w g t 24 #[.int .i64 m.k, v, .string (oct.tx m.body)] (0, 0) _ hg Try.underlying24 rfl (by rw [info_mg]; rfl)
  simp [results, h, hp', asAddr, hl]
/-- what the landed code reads behind the kind -/
def readM (k : Int) (st : St) : Mg × St := if kindM k = 1 then (⟨k, (rdS' st).1, []⟩, (rdS' st).2) else if kindM k = 2 then (⟨k, [], (rdT2 st).1⟩, (rdT2 st).2) else (⟨k, [], []⟩, st)
def MrOut (F : Nat → Prop) (g : Nat) (k : Int) (st : St) (w : World) (e : Ending) (w' : World) : Prop := ∃ v, e = .returned (mgv (readM k st).1 v) ∧ OwnI w' (w.heap.size ≤ ·) v (readM k st).1.ids ∧ RdL w' g (readM k st).2 ∧ Turn F w w'
/-- what stands while the parts are read: the result's block, the message's box, the Reader -/
structure MrP (F : Nat → Prop) (w : World) (g R S : Nat) (o : Mg) (st : St) (v : Value) (u : World) : Prop where
  mg : Blk u S 24 #[.int .i64 o.k, v, .string (oct.tx o.body)]
  res : Blk u R 24 #[.int .i64 zmg.k, nv, .string (oct.tx zmg.body)]
  own : OwnI u (S < ·) v o.ids
  rdr : RdL u g st
  turn : Turn F w u
  gR : g < R
  RS : R < S
  wR : w.heap.size ≤ R
section
variable {F : Nat → Prop} {w u u2 : World} {g R S : Nat} {o : Mg} {st st2 : St} {v : Value}
theorem MrP.read (p : MrP F w g R S o st v u) (hF : F g) (hn : New F w) (ht : Turn (fun b => b = g ∨ u.heap.size ≤ b) u u2) (hr : RdL u2 g st2) : MrP F w g R S o st2 v u2 := by
  have h1 := p.mg.lt
  have h2 := p.gR
  have h3 := p.RS
  have h4 := p.turn.size
  refine ⟨p.mg.turn ht (by omega), p.res.turn ht (by omega), p.own.turn ht (fun b hb hh => ?_), hr, p.turn.trans (ht.mono fun b hb => ?_), h2, h3, p.wR⟩
  · have a : S < b := p.own.2.2 b hb
    have c := p.own.lt hb
    rcases hh with e | e <;> omega
  · rcases hb with e | e
    · exact e ▸ hF
    · exact hn b (by omega)
theorem MrP.putIds (p : MrP F w g R S o st v u) (hn : New F w) {L : List (List UInt8)} {v' : Value} (hv : OwnI u (S < ·) v' L) : MrP F w g R S { o with ids := L } st v' (u.setCell ⟨S, 1, none⟩ v') := by
  have h2 := p.gR
  have h3 := p.RS
  have h4 := p.wR
  have ht : Turn (· = S) u (u.setCell ⟨S, 1, none⟩ v') := (Turn.refl (· = S) u).setCell rfl _
  refine ⟨mgm_ids p.mg L v', p.res.turn ht (by omega), hv.turn ht (fun b hb hh => ?_), p.rdr.turn ht (by omega), p.turn.trans (ht.mono fun b hb => hn b (by omega)), h2, h3, h4⟩
  have a : S < b := hv.2.2 b hb
  omega
theorem MrP.putBody (p : MrP F w g R S o st v u) (hn : New F w) (l : List UInt8) : MrP F w g R S { o with body := l } st v (u.setCell ⟨S, 2, none⟩ (.string (oct.tx l))) := by
  have h2 := p.gR
  have h3 := p.RS
  have h4 := p.wR
  have ht : Turn (· = S) u (u.setCell ⟨S, 2, none⟩ (.string (oct.tx l))) := (Turn.refl (· = S) u).setCell rfl _
  refine ⟨mgm_body p.mg l, p.res.turn ht (by omega), p.own.turn ht (fun b hb hh => ?_), p.rdr.turn ht (by omega), p.turn.trans (ht.mono fun b hb => hn b (by omega)), h2, h3, h4⟩
  have a : S < b := p.own.2.2 b hb
  omega
/-- at the end: the result's block holds it -/
theorem MrP.out (p : MrP F w g R S o st v u) (hn : New F w) {k : Int} {s0 : St} (he : readM k s0 = (o, st)) (e : Ending) (hr : e = .returned (mgv o v)) : MrOut F g k s0 w e (u.setRow R #[.int .i64 o.k, v, .string (oct.tx o.body)]) := by
  have h2 := p.gR
  have h3 := p.RS
  have h4 := p.wR
  have ht := turn_row u R #[.int .i64 o.k, v, .string (oct.tx o.body)]
  unfold MrOut
  rw [he]
  refine ⟨v, hr, (p.own.turn ht fun b hb hh => ?_).mono fun b hb => ?_, p.rdr.turn ht (by omega), p.turn.trans (ht.mono fun b hb => hn b (by omega))⟩
  · have a : S < b := p.own.2.2 b hb
    omega
  · have hb : S < b := hb
    omega
end
set_option maxHeartbeats 4000000 in
set_option maxRecDepth 100000 in
theorem mread_any (F : Nat → Prop) (g : Nat) (k : Int) (st : St) (w : World) (h : RdL w g st) (hF : F g) (hn : New F w) :
    Calls Try.prog 35 #[.pointer (some ⟨g, 0, none⟩), .int .i64 k] w fun e w' => MrOut F g k st w e w' := by
  obtain ⟨w1, hw1⟩ : ∃ u, u = w.alloc (.cells #[.int .i64 zmg.k, nv, .string (oct.tx zmg.body)] 24) := ⟨_, rfl⟩
  obtain ⟨R, hR⟩ : ∃ S, S = w.heap.size := ⟨_, rfl⟩
  obtain ⟨S, hS⟩ : ∃ S, S = w1.heap.size := ⟨_, rfl⟩
  have hsz : S = R + 1 := by rw [hS, hw1, hR]; simp
  have hHH := run_hold w1 ⟨k, [], []⟩ nv rfl
  obtain ⟨w2, hw2⟩ : ∃ u, u = heldW w1 ⟨k, [], []⟩ nv := ⟨_, rfl⟩
  have hk2 := held_blk w1 ⟨k, [], []⟩ nv
  have hb2 := held_below w1 ⟨k, [], []⟩ nv
  rw [← hw2, ← hS] at hk2
  rw [← hw2] at hHH hb2
  have hP : MrP F w g R S ⟨k, [], []⟩ st nv w2 := by
    have h1 : Blk w1 R 24 #[.int .i64 zmg.k, nv, .string (oct.tx zmg.body)] := by rw [hw1, hR]; exact Blk.new w _ _
    have ht1 : Turn F w w1 := by rw [hw1]; exact (Turn.refl F w).alloc hn _
    have ht2 : Turn F w1 w2 := Turn.fresh hb2 (hn.turn ht1)
    have hg := h.lt
    refine ⟨hk2, h1.below hb2 h1.lt, OwnI.nil _ _, ?_, ht1.trans ht2, by omega, by omega, by omega⟩
    have hta : Turn (w.heap.size ≤ ·) w w2 := (show Turn (w.heap.size ≤ ·) w w1 by rw [hw1]; exact (Turn.refl _ w).alloc (fun _ h => h) _).trans (Turn.fresh hb2 fun b hb => by have : w.heap.size ≤ w1.heap.size := ht1.size; omega)
    exact h.turn hta (by omega)
  have HHH := Lib.hid hHH
  have HP := Lib.hid hP
  have HR := Lib.hid hR
  have HS := Lib.hid hS
  have HW := Lib.hid hw1
  have HF := Lib.hid hF
  have HN := Lib.hid hn
  have HK := Lib.hid (fun u => has_any k u)
  obtain ⟨kk, hkk⟩ : ∃ x, x = kindM k := ⟨_, rfl⟩
  rw [← hkk] at HK
  have hkc := kindM_cases k
  rw [← hkk] at hkc
  have HKK := Lib.hid hkk
  clear hHH hP hR hS hw1 hw2 hk2 hb2 hsz h hF hn hkk
  rcases hkc with ⟨e1, -⟩ | ⟨e1, -⟩ | ⟨e1, -⟩
  · subst e1
    have HE : Hid (readM k st = (⟨k, (rdS' st).1, []⟩, (rdS' st).2)) := Lib.hid (by unfold readM; rw [if_pos HKK.out.symm])
    have HC := Lib.hid (rids_s (fun b => b = g ∨ w2.heap.size ≤ b) g st w2 HP.out.rdr (.inl rfl) (fun b hb => .inr hb))
    go_enter Try.func35, Try.ntmps35
    go_upto_region 1 with fail
    refine wp_at HW.out.symm ?_
    rw [← HR.out]
    clear HW
    go_upto_region 2 with ((with_reducible refine step_store_run (t := 24) (x := .tmp 5) (y := .tmp 7) (p := ?sph1) (v := ?svh1) (w' := ?swh1) ?sgh1 ?soh1 ?sxh1 ?syh1 ?srh1 ?shh1); (case sgh1 => rfl); (case soh1 => rfl); (case sxh1 => rfl); (case syh1 => rfl); (case srh1 => exact HHH.out))
    rw [← HS.out]
    clear HHH HS
    go_wp2_with (first
      | (go_at_call 20; (with_reducible refine (HK.out _).mono ?_); rintro e w5 ⟨rfl, rfl⟩)
      | (go_at_call 51; (with_reducible refine HC.out.mono ?_); rintro e w3 ⟨v, rfl, ho, hr3, ht3⟩; have hp3 := HP.out.read HF.out HN.out ht3 hr3; have c1 := (MgBlk.of hp3.mg).ids; have hf1 := hp3.mg.frozen 1; have hos : OwnI w3 (S < ·) v (rdS' st).1 := ho.mono fun b hb => Nat.lt_of_lt_of_le HP.out.mg.lt hb; obtain ⟨ad, cap, hvf, -, -⟩ := hos.form; obtain ⟨ln, hln⟩ : ∃ n, n = (rdS' st).1.length := ⟨_, rfl⟩; rw [← hln] at hvf; subst hvf; have hp4 := hp3.putIds HN.out hos; have HP4 := Lib.hid hp4; have HLD := Lib.hid (run_load_mg hp4.mg); have HST := Lib.hid (run_store_mg hp4.res rfl ⟨k, (rdS' st).1, []⟩ (.slice ad ln cap) rfl); clear hp3 hos ho hr3 ht3 hp4 hln HC)
      | ((with_reducible refine step_load (t := 24) (x := .tmp 5) (p := ?lpl1) (v := ?lvl1) ?lgl1 ?lol1 ?lxl1 ?lrl1 ?lhl1); (case lgl1 => rfl); (case lol1 => rfl); (case lxl1 => rfl); (case lrl1 => exact HLD.out))
      | ((with_reducible refine step_store_run (t := 24) (x := .tmp 4) (y := .tmp 20) (p := ?sps1) (v := ?svs1) (w' := ?sws1) ?sgs1 ?sos1 ?sxs1 ?sys1 ?srs1 ?shs1); (case sgs1 => rfl); (case sos1 => rfl); (case sxs1 => rfl); (case sys1 => rfl); (case srs1 => exact HST.out)))
    refine bodyPost_ret (results_mg1 rfl _ _ R 24 ⟨k, (rdS' st).1, []⟩ (.slice ad ln cap) rfl (setRow_heap _ _ _ _ _ _ HP4.out.res)) rfl (HP4.out.out HN.out HE.out _ rfl)
  · subst e1
    have HE : Hid (readM k st = (⟨k, [], (rdT2 st).1⟩, (rdT2 st).2)) := Lib.hid (by unfold readM; rw [if_neg (by rw [← HKK.out]; decide), if_pos HKK.out.symm])
    have HC := Lib.hid (ltext_s (fun b => b = g ∨ w2.heap.size ≤ b) g st w2 HP.out.rdr (.inl rfl) (fun b hb => .inr hb))
    obtain ⟨tb, htb⟩ : ∃ t, t = oct.tx (rdT2 st).1 := ⟨_, rfl⟩
    rw [← htb] at HC
    have HTB := Lib.hid htb
    clear htb
    go_enter Try.func35, Try.ntmps35
    go_upto_region 1 with fail
    refine wp_at HW.out.symm ?_
    rw [← HR.out]
    clear HW
    go_upto_region 2 with ((with_reducible refine step_store_run (t := 24) (x := .tmp 5) (y := .tmp 7) (p := ?sph2) (v := ?svh2) (w' := ?swh2) ?sgh2 ?soh2 ?sxh2 ?syh2 ?srh2 ?shh2); (case sgh2 => rfl); (case soh2 => rfl); (case sxh2 => rfl); (case syh2 => rfl); (case srh2 => exact HHH.out))
    rw [← HS.out]
    clear HHH HS
    go_wp2_with (first
      | (go_at_call 20; (with_reducible refine (HK.out _).mono ?_); rintro e w5 ⟨rfl, rfl⟩)
      | (go_at_call 52; (with_reducible refine HC.out.mono ?_); rintro e w3 ⟨rfl, hr3, ht3⟩; have hp3 := HP.out.read HF.out HN.out ht3 hr3; have c2 := (MgBlk.of hp3.mg).body; have hf2 := hp3.mg.frozen 2; have hp4 := hp3.putBody HN.out (rdT2 st).1; have HLD := Lib.hid (run_load_mg hp4.mg); have HST := Lib.hid (run_store_mg hp4.res rfl ⟨k, [], (rdT2 st).1⟩ nv rfl); have HP4 := Lib.hid hp4; rw [← HTB.out] at HP4 HLD HST; clear hp3 hr3 ht3 hp4 HC)
      | ((with_reducible refine step_load (t := 24) (x := .tmp 5) (p := ?lpl2) (v := ?lvl2) ?lgl2 ?lol2 ?lxl2 ?lrl2 ?lhl2); (case lgl2 => rfl); (case lol2 => rfl); (case lxl2 => rfl); (case lrl2 => exact HLD.out))
      | ((with_reducible refine step_store_run (t := 24) (x := .tmp 4) (y := .tmp 20) (p := ?sps2) (v := ?svs2) (w' := ?sws2) ?sgs2 ?sos2 ?sxs2 ?sys2 ?srs2 ?shs2); (case sgs2 => rfl); (case sos2 => rfl); (case sxs2 => rfl); (case sys2 => rfl); (case srs2 => exact HST.out)))
    have hp5 := HP4.out
    rw [HTB.out] at hp5 ⊢
    refine bodyPost_ret (results_mg1 rfl _ _ R 24 ⟨k, [], (rdT2 st).1⟩ nv rfl (setRow_heap _ _ _ _ _ _ hp5.res)) rfl (hp5.out HN.out HE.out _ rfl)
  · subst e1
    have HE : Hid (readM k st = (⟨k, [], []⟩, st)) := Lib.hid (by unfold readM; rw [if_neg (by rw [← HKK.out]; decide), if_neg (by rw [← HKK.out]; decide)])
    have HLD := Lib.hid (run_load_mg HP.out.mg)
    have HST := Lib.hid (run_store_mg HP.out.res rfl ⟨k, [], []⟩ nv rfl)
    go_enter Try.func35, Try.ntmps35
    go_upto_region 1 with fail
    refine wp_at HW.out.symm ?_
    rw [← HR.out]
    clear HW
    go_upto_region 2 with ((with_reducible refine step_store_run (t := 24) (x := .tmp 5) (y := .tmp 7) (p := ?sph3) (v := ?svh3) (w' := ?swh3) ?sgh3 ?soh3 ?sxh3 ?syh3 ?srh3 ?shh3); (case sgh3 => rfl); (case soh3 => rfl); (case sxh3 => rfl); (case syh3 => rfl); (case srh3 => exact HHH.out))
    rw [← HS.out]
    clear HHH HS
    go_wp2_with (first
      | (go_at_call 20; (with_reducible refine (HK.out _).mono ?_); rintro e w5 ⟨rfl, rfl⟩)
      | ((with_reducible refine step_load (t := 24) (x := .tmp 5) (p := ?lpl3) (v := ?lvl3) ?lgl3 ?lol3 ?lxl3 ?lrl3 ?lhl3); (case lgl3 => rfl); (case lol3 => rfl); (case lxl3 => rfl); (case lrl3 => exact HLD.out))
      | ((with_reducible refine step_store_run (t := 24) (x := .tmp 4) (y := .tmp 20) (p := ?sps3) (v := ?svs3) (w' := ?sws3) ?sgs3 ?sos3 ?sxs3 ?sys3 ?srs3 ?shs3); (case sgs3 => rfl); (case sos3 => rfl); (case sxs3 => rfl); (case sys3 => rfl); (case srs3 => exact HST.out)))
    refine bodyPost_ret (results_mg1 rfl _ _ R 24 ⟨k, [], []⟩ nv rfl (setRow_heap _ _ _ _ _ _ HP.out.res)) rfl (HP.out.out HN.out HE.out _ rfl)
end Go.Proofs.Ytbfjljbllfjicaa.msg
