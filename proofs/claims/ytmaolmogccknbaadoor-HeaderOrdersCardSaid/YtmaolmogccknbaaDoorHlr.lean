/-
  The landed header: read.
-/
import Derived.Test.YtmaolmogccknbaaDoorHdis
import Derived.Test.YtmaolmogccknbaaDoorWib
namespace Go.Proofs.YtmaolmogccknbaaDoor.hdr
open Go.RowKit Go.Proofs.YtmaolmogccknbaaDoor.mem Go.Proofs.YtmaolmogccknbaaDoor.sha Go.Proofs.YtmaolmogccknbaaDoor.ids
open Go.Proofs.YtmaolmogccknbaaDoor.opn (b1 b2 b4 num txt idl byte rd rdN rdT rdI rdS rdS' rdL St Reads Stays endE zid mkId RdL rids_s rid_s rtext_s lnum1_s lnum2_s lnum4_s rdN_nonneg rdI_len rdS'_le)

/-- as the landed code reads one: no parents, if not all are there -/
def rdH' (st : St) : Hd × St := rd2 (rdS' st).1 (rdS' st).2
theorem rdH'_snd (st : St) : (rdH' st).2 = (rdH st).2 := rfl
theorem rdS_of_rdH (st : St) (h : (rdH st).2.2 = 0) : (rdS st).2.2 = 0 := errs_N 4 _ (errs_T _ (errs_N 1 _ (errs_N 4 _ (errs_N 2 _ (errs_I _ h)))))
theorem rdH'_ok (st : St) (h : (rdH st).2.2 = 0) : rdH' st = rdH st := by
  unfold rdH' rdH
  rw [opn.rdS'_ok st (rdS_of_rdH st h)]
/-- what stands while a part is read: the header so far, its parents of the call's own, the Reader, the result -/
structure HrP (w0 : World) (g R S : Nat) (o : Hd) (st : St) (v : Value) (w : World) : Prop where
  hd : Blk w S 46 (hdc o v).toArray
  own : OwnI w (S < ·) v o.parents
  rdr : RdL w g st
  res : Blk w R 46 (hdc zhd nv).toArray
  turn : Turn (fun b => b = g ∨ R ≤ b) w0 w
  gR : g < R
  RS : R < S
  len : o.parents.length ≤ 255
  com : o.commit.length = 32
section
variable {w0 : World} {g R S : Nat} {o o' : Hd} {st st2 : St} {v : Value} {w w2 : World}
theorem HrP.read (h : HrP w0 g R S o st v w) (ht : Turn (fun b => b = g ∨ w.heap.size ≤ b) w w2) (hr : RdL w2 g st2) : HrP w0 g R S o st2 v w2 := by
  have h1 := h.hd.lt
  have h2 := h.gR
  have h3 := h.RS
  refine ⟨h.hd.turn ht (fun hb => by rcases hb with e | e <;> omega), h.own.turn ht (fun k hk hb => ?_), hr, h.res.turn ht (fun hb => by rcases hb with e | e <;> omega), h.turn.trans (ht.mono fun b hb => hb.elim .inl fun e => .inr (by omega)), h2, h3, h.len, h.com⟩
  have a : S < k := h.own.2.2 k hk
  have b := h.own.lt hk
  rcases hb with e | e <;> omega
theorem HrP.put (h : HrP w0 g R S o st v w) (ht : Turn (· = S) w w2) (hS : Blk w2 S 46 (hdc o' v).toArray) (hrefs : o'.parents = o.parents) (href : o'.commit.length = 32) : HrP w0 g R S o' st v w2 := by
  have h2 := h.gR
  have h3 := h.RS
  refine ⟨hS, ?_, h.rdr.turn ht (by omega), h.res.turn ht (by omega), h.turn.trans (ht.mono fun b hb => .inr (by omega)), h2, h3, by rw [hrefs]; exact h.len, href⟩
  rw [hrefs]
  exact h.own.turn ht fun k hk e => by
    have a : S < k := h.own.2.2 k hk
    omega
theorem HrP.put0 (h : HrP w0 g R S o st v w) {u : Value} {L : List (List UInt8)} (ho : OwnI w (S < ·) u L) (hl : L.length ≤ 255) : HrP w0 g R S { o with parents := L } st u (w.setCell ⟨S, 0, none⟩ u) := by
  have h2 := h.gR
  have h3 := h.RS
  have ht : Turn (· = S) w (w.setCell ⟨S, 0, none⟩ u) := (Turn.refl (· = S) w).setCell rfl _
  refine ⟨hdm_parents h.hd L u, ho.turn ht (fun k hk e => ?_), h.rdr.turn ht (by omega), h.res.turn ht (by omega), h.turn.trans (ht.mono fun b hb => .inr (by omega)), h2, h3, hl, h.com⟩
  have a : S < k := ho.2.2 k hk
  omega
theorem HrP.put1 (h : HrP w0 g R S o st v w) (n : Int) : HrP w0 g R S { o with height := n } st v (w.setCell ⟨S, 1, none⟩ (.int .i64 n)) := h.put ((Turn.refl (· = S) w).setCell rfl _) (hdm_height h.hd n) rfl h.com
theorem HrP.put2 (h : HrP w0 g R S o st v w) (l : List UInt8) : HrP w0 g R S { o with topic := l } st v (w.setCell ⟨S, 2, none⟩ (.string (oct.tx l))) := h.put ((Turn.refl (· = S) w).setCell rfl _) (hdm_topic h.hd l) rfl h.com
theorem HrP.put3 (h : HrP w0 g R S o st v w) (n : Int) : HrP w0 g R S { o with author := n } st v (w.setCell ⟨S, 3, none⟩ (.int .i64 n)) := h.put ((Turn.refl (· = S) w).setCell rfl _) (hdm_author h.hd n) rfl h.com
theorem HrP.put4 (h : HrP w0 g R S o st v w) (n : Int) : HrP w0 g R S { o with seq := n } st v (w.setCell ⟨S, 4, none⟩ (.int .i64 n)) := h.put ((Turn.refl (· = S) w).setCell rfl _) (hdm_seq h.hd n) rfl h.com
theorem HrP.put5 (h : HrP w0 g R S o st v w) (n : Int) : HrP w0 g R S { o with size := n } st v (w.setCell ⟨S, 5, none⟩ (.int .i64 n)) := h.put ((Turn.refl (· = S) w).setCell rfl _) (hdm_size h.hd n) rfl h.com
theorem HrP.put6 (h : HrP w0 g R S o st v w) (y : List UInt8) (hy : y.length = 32) : HrP w0 g R S { o with commit := y } st v (w.setRow S (hdc { o with commit := y } v).toArray) := h.put (turn_row w S _) (setRow_heap w S _ _ _ _ h.hd) rfl hy
theorem HrP.one (h : HrP w0 g R S o st v w) : v.oneCell' = true := rdv_one ((h.own.rdv (Nat.le_trans h.len (by decide))).1)
theorem HrP.last (h : HrP w0 g R S o st v w) : (Instr.storeAt 46 (.pointer (some ⟨R, 0, none⟩)) (hdv o v)).run Tryd.prog w = .ok () (w.setRow R (hdc o v).toArray) := run_store_hd h.res (hdc_size _ _ zcom) o v h.com h.one
end
theorem results_hd1 {fn : Func} {p : Tmp} (h : fn.results = #[.cell p 46]) (tmps : Array Value) (w : World) (g : Nat) (t : TypeId) (o : Hd) (v : Value)
    (hp : tmps.getD p undef = .pointer (some ⟨g, 0, none⟩)) (hg : Blk w g t (hdc o v).toArray) (hr : o.commit.length = 32) :
    (results fn tmps).run Tryd.prog w = .ok (hdv o v) w := by
  have hp' : tmps[p]?.getD undef = .pointer (some ⟨g, 0, none⟩) := by simpa using hp
  have hl := run_loadVar_row w g t 46 (hdc o v).toArray (0, 0) _ hg Tryd.underlying46 rfl (by rw [info_hd, hdc_size o v hr])
  simp [results, h, hp', asAddr, hl, hdv]
/-- what read answers and leaves -/
def HrOut (F : Nat → Prop) (g : Nat) (st : St) (w : World) (e : Ending) (w' : World) : Prop := ∃ v, e = .returned (hdv (rdH' st).1 v) ∧ OwnI w' (w.heap.size ≤ ·) v (rdH' st).1.parents ∧ RdL w' g (rdH' st).2 ∧ Turn F w w'
theorem HrP.out {F : Nat → Prop} {w0 : World} {g R S : Nat} {st s2 : St} {v : Value} {w w1 : World} {o : Hd} (h : HrP w1 g R S o s2 v w) (hF : F g) (hn : New F w0) (hR : w0.heap.size ≤ R) (h0 : Turn F w0 w1) (he : rdH' st = (o, s2)) :
    HrOut F g st w0 (.returned (hdv o v)) (w.setRow R (hdc o v).toArray) := by
  have h2 := h.gR
  have h3 := h.RS
  have ht := turn_row w R (hdc o v).toArray
  refine ⟨v, by rw [he], ?_, ?_, ?_⟩
  · rw [he]
    exact (h.own.turn ht fun k hk e => by have a : S < k := h.own.2.2 k hk; omega).mono fun b hb => by omega
  · rw [he]
    exact h.rdr.turn ht (by omega)
  · exact (h0.trans (h.turn.mono fun b hb => hb.elim (fun e => e ▸ hF) fun e => hn b (by omega))).trans (ht.mono fun b hb => hn b (by omega))
set_option maxHeartbeats 8000000 in
set_option maxRecDepth 100000 in
theorem hread_any (F : Nat → Prop) (g : Nat) (st : St) (w : World) (h : RdL w g st) (hF : F g) (hn : New F w) :
    Calls Tryd.prog 70 #[.pointer (some ⟨g, 0, none⟩)] w fun e w' => HrOut F g st w e w' := by
  obtain ⟨w1, hw1⟩ : ∃ u, u = (w.alloc (.cells (hdc zhd nv).toArray 46)).alloc (.cells (hdc zhd nv).toArray 46) := ⟨_, rfl⟩
  obtain ⟨R, hR⟩ : ∃ S, S = w.heap.size := ⟨_, rfl⟩
  have hta : Turn (w.heap.size ≤ ·) w w1 := by rw [hw1]; exact ((Turn.refl (w.heap.size ≤ ·) w).alloc (fun _ h => h) _).alloc (fun _ h => h) _
  have HP0 : HrP w1 g R (R + 1) zhd st nv w1 := by
    have h1 := h.lt
    refine ⟨by rw [hw1, hR]; exact Blk.at_ (by simp) _ _, OwnI.nil _ _, h.turn hta (by omega), ?_, Turn.refl _ _, by omega, by omega, Nat.zero_le _, zcom⟩
    rw [hw1, hR]
    exact (Blk.new w _ _).alloc _
  have HT0 := Lib.hid (hta.mono fun b hb => hn b hb)
  have HR := Lib.hid hR
  have HF := Lib.hid hF
  have HN := Lib.hid hn
  have HW := Lib.hid hw1
  have HP0 := Lib.hid HP0
  clear h hF hn hw1 hR hta
  go_enter Tryd.func70, Tryd.ntmps70
  go_upto_region 2 with fail
  refine wp_at HW.out.symm ?_
  rw [← HR.out]
  clear HW
  obtain ⟨s0, hs0⟩ : ∃ s, s = st := ⟨_, rfl⟩
  obtain ⟨y0, hy0⟩ : ∃ y, y = (rdS' s0).1 := ⟨_, rfl⟩
  obtain ⟨s1, hs1⟩ : ∃ s, s = (rdS' s0).2 := ⟨_, rfl⟩
  have HL0 : Hid (y0.length ≤ 255) := Lib.hid (by rw [hy0]; exact rdS'_le _)
  obtain ⟨y1, hy1⟩ : ∃ y, y = (rdN 4 s1).1 := ⟨_, rfl⟩
  obtain ⟨s2, hs2⟩ : ∃ s, s = (rdN 4 s1).2 := ⟨_, rfl⟩
  obtain ⟨y2, hy2⟩ : ∃ y, y = (rdT s2).1 := ⟨_, rfl⟩
  obtain ⟨s3, hs3⟩ : ∃ s, s = (rdT s2).2 := ⟨_, rfl⟩
  obtain ⟨t2, ht2⟩ : ∃ t, t = oct.tx y2 := ⟨_, rfl⟩
  obtain ⟨y3, hy3⟩ : ∃ y, y = (rdN 1 s3).1 := ⟨_, rfl⟩
  obtain ⟨s4, hs4⟩ : ∃ s, s = (rdN 1 s3).2 := ⟨_, rfl⟩
  obtain ⟨y4, hy4⟩ : ∃ y, y = (rdN 4 s4).1 := ⟨_, rfl⟩
  obtain ⟨s5, hs5⟩ : ∃ s, s = (rdN 4 s4).2 := ⟨_, rfl⟩
  obtain ⟨y5, hy5⟩ : ∃ y, y = (rdN 2 s5).1 := ⟨_, rfl⟩
  obtain ⟨s6, hs6⟩ : ∃ s, s = (rdN 2 s5).2 := ⟨_, rfl⟩
  obtain ⟨y6, hy6⟩ : ∃ y, y = (rdI s6).1 := ⟨_, rfl⟩
  obtain ⟨s7, hs7⟩ : ∃ s, s = (rdI s6).2 := ⟨_, rfl⟩
  have HL6 : Hid (y6.length = 32) := Lib.hid (by rw [hy6]; exact rdI_len _)
  have HE : Hid (rdH' st = (⟨y0, y1, y2, y3, y4, y5, y6⟩, s7)) := Lib.hid (by subst hs0 hy0 hs1 hy1 hs2 hy2 hs3 hy3 hs4 hy4 hs5 hy5 hs6 hy6 hs7; rfl)
  have HS1 := Lib.hid hs1
  have HY0 := Lib.hid hy0
  have HS2 := Lib.hid hs2
  have HY1 := Lib.hid hy1
  have HS3 := Lib.hid hs3
  have HY2 := Lib.hid hy2
  have HTX2 := Lib.hid ht2
  have HS4 := Lib.hid hs4
  have HY3 := Lib.hid hy3
  have HS5 := Lib.hid hs5
  have HY4 := Lib.hid hy4
  have HS6 := Lib.hid hs6
  have HY5 := Lib.hid hy5
  have HS7 := Lib.hid hs7
  have HY6 := Lib.hid hy6
  rw [← hs0] at HP0
  clear hs0 hs1 hy0 hs2 hy1 hs3 hy2 hs4 hy3 hs5 hy4 hs6 hy5 hs7 hy6 ht2
  have HC0 := Lib.hid (rids_s (fun b => b = g ∨ w1.heap.size ≤ b) g s0 w1 HP0.out.rdr (.inl rfl) (fun b hb => .inr hb))
  have HC0 := HC0.out
  rw [← HY0.out, ← HS1.out] at HC0
  have HC0 := Lib.hid HC0
  go_wp2_with (first
    | ((with_reducible refine step_store_run (t := 23) (x := .tmp 24) (y := .tmp 23) (p := ?spi6) (v := ?svi6) (w' := ?swi6) ?sgi6 ?soi6 ?sxi6 ?syi6 ?sri6 ?shi6); (case sgi6 => rfl); (case soi6 => rfl); (case sxi6 => rfl); (case syi6 => rfl); (case sri6 => exact HRUN6.out))
    | (go_at_call 87; (with_reducible refine HC6.out.mono ?_); rintro e u6 ⟨rfl, hr6, ht6⟩; have hq6 := HP6.out.read ht6 hr6; have HRUN6 := Lib.hid (hdm_commit hq6.hd hq6.com y6 HL6.out); have hp7 := hq6.put6 y6 HL6.out; have HP7 := Lib.hid hp7; obtain ⟨ww6, hww6⟩ : ∃ u, u = u6.setRow (R + 1) (hdc { { { { { { { zhd with parents := y0 } with height := y1 } with topic := y2 } with author := y3 } with seq := y4 } with size := y5 } with commit := y6 } (.slice ad0 ln0 cap0)).toArray := ⟨_, rfl⟩; rw [← hww6] at hp7 HRUN6; have HP7 := Lib.hid hp7; have HLD := Lib.hid (run_load_hd HP7.out.hd HP7.out.com); have HLS := Lib.hid HP7.out.last; clear hq6 hp7 hr6 ht6 HC6 HP6 hww6)
    | (go_at_call 54; (with_reducible refine HC5.out.mono ?_); rintro e u5 ⟨rfl, hr5, ht5⟩; have hq5 := HP5.out.read ht5 hr5; have cc5 := (HdBlk.of hq5.hd hq5.com).size; have hf5 := hq5.hd.frozen 5; have hp6 := hq5.put5 y5; have HP6 := Lib.hid hp6; have HC6 := Lib.hid (rid_s (fun b => b = g ∨ (u5.setCell ⟨R + 1, 5, none⟩ (.int .i64 y5)).heap.size ≤ b) g s6 (u5.setCell ⟨R + 1, 5, none⟩ (.int .i64 y5)) HP6.out.rdr (.inl rfl) (fun b hb => .inr hb)); have HC6 := HC6.out; rw [← HY6.out, ← HS7.out] at HC6; have HC6 := Lib.hid HC6; clear hq5 hp6 hr5 ht5 HC5 HP5)
    | (go_at_call 54; (with_reducible refine HC4.out.mono ?_); rintro e u4 ⟨rfl, hr4, ht4⟩; have hq4 := HP4.out.read ht4 hr4; have cc4 := (HdBlk.of hq4.hd hq4.com).seq; have hf4 := hq4.hd.frozen 4; have hp5 := hq4.put4 y4; have HP5 := Lib.hid hp5; have HC5 := Lib.hid (lnum2_s (fun b => b = g ∨ (u4.setCell ⟨R + 1, 4, none⟩ (.int .i64 y4)).heap.size ≤ b) g s5 (u4.setCell ⟨R + 1, 4, none⟩ (.int .i64 y4)) HP5.out.rdr (.inl rfl) (fun b hb => .inr hb)); have HC5 := HC5.out; rw [← HY5.out, ← HS6.out] at HC5; have HC5 := Lib.hid HC5; clear hq4 hp5 hr4 ht4 HC4 HP4)
    | (go_at_call 54; (with_reducible refine HC3.out.mono ?_); rintro e u3 ⟨rfl, hr3, ht3⟩; have hq3 := HP3.out.read ht3 hr3; have cc3 := (HdBlk.of hq3.hd hq3.com).author; have hf3 := hq3.hd.frozen 3; have hp4 := hq3.put3 y3; have HP4 := Lib.hid hp4; have HC4 := Lib.hid (lnum4_s (fun b => b = g ∨ (u3.setCell ⟨R + 1, 3, none⟩ (.int .i64 y3)).heap.size ≤ b) g s4 (u3.setCell ⟨R + 1, 3, none⟩ (.int .i64 y3)) HP4.out.rdr (.inl rfl) (fun b hb => .inr hb)); have HC4 := HC4.out; rw [← HY4.out, ← HS5.out] at HC4; have HC4 := Lib.hid HC4; clear hq3 hp4 hr3 ht3 HC3 HP3)
    | (go_at_call 85; (with_reducible refine HC2.out.mono ?_); rintro e u2 ⟨rfl, hr2, ht2⟩; have hq2 := HP2.out.read ht2 hr2; have cc2 := (HdBlk.of hq2.hd hq2.com).topic; have hf2 := hq2.hd.frozen 2; have hp3 := hq2.put2 y2; rw [← HTX2.out] at hp3; have HP3 := Lib.hid hp3; have HC3 := Lib.hid (lnum1_s (fun b => b = g ∨ (u2.setCell ⟨R + 1, 2, none⟩ (.string t2)).heap.size ≤ b) g s3 (u2.setCell ⟨R + 1, 2, none⟩ (.string t2)) HP3.out.rdr (.inl rfl) (fun b hb => .inr hb)); have HC3 := HC3.out; rw [← HY3.out, ← HS4.out] at HC3; have HC3 := Lib.hid HC3; clear hq2 hp3 hr2 ht2 HC2 HP2)
    | (go_at_call 54; (with_reducible refine HC1.out.mono ?_); rintro e u1 ⟨rfl, hr1, ht1⟩; have hq1 := HP1.out.read ht1 hr1; have cc1 := (HdBlk.of hq1.hd hq1.com).height; have hf1 := hq1.hd.frozen 1; have hp2 := hq1.put1 y1; have HP2 := Lib.hid hp2; have HC2 := Lib.hid (rtext_s (fun b => b = g ∨ (u1.setCell ⟨R + 1, 1, none⟩ (.int .i64 y1)).heap.size ≤ b) g s2 (u1.setCell ⟨R + 1, 1, none⟩ (.int .i64 y1)) HP2.out.rdr (.inl rfl) (fun b hb => .inr hb)); have HC2 := HC2.out; rw [← HY2.out, ← HS3.out, ← HTX2.out] at HC2; have HC2 := Lib.hid HC2; clear hq1 hp2 hr1 ht1 HC1 HP1)
    | (go_at_call 86; (with_reducible refine HC0.out.mono ?_); rintro e u0 ⟨v0, rfl, ho0, hr0, ht0⟩; have hq0 := HP0.out.read ht0 hr0; have cc0 := (HdBlk.of hq0.hd hq0.com).parents; have hf0 := hq0.hd.frozen 0; have hos0 : OwnI u0 (R + 1 < ·) v0 y0 := ho0.mono fun b hb => Nat.lt_of_lt_of_le HP0.out.hd.lt hb; obtain ⟨ad0, cap0, hvf0, -, -⟩ := hos0.form; obtain ⟨ln0, hln0⟩ : ∃ n, n = y0.length := ⟨_, rfl⟩; rw [← hln0] at hvf0; subst hvf0; have hp1 := hq0.put0 hos0 HL0.out; clear hln0 hos0 ho0; have HP1 := Lib.hid hp1; have HC1 := Lib.hid (lnum4_s (fun b => b = g ∨ (u0.setCell ⟨R + 1, 0, none⟩ (.slice ad0 ln0 cap0)).heap.size ≤ b) g s1 (u0.setCell ⟨R + 1, 0, none⟩ (.slice ad0 ln0 cap0)) HP1.out.rdr (.inl rfl) (fun b hb => .inr hb)); have HC1 := HC1.out; rw [← HY1.out, ← HS2.out] at HC1; have HC1 := Lib.hid HC1; clear hq0 hp1 hr0 ht0 HC0 HP0)
    | ((with_reducible refine step_load (t := 46) (x := .tmp 3) (p := ?lplz) (v := ?lvlz) ?lglz ?lolz ?lxlz ?lrlz ?lhlz); (case lglz => rfl); (case lolz => rfl); (case lxlz => rfl); (case lrlz => exact HLD.out))
    | ((with_reducible refine step_store_run (t := 46) (x := .tmp 2) (y := .tmp 25) (p := ?spz) (v := ?svz) (w' := ?swz) ?sgz ?soz ?sxz ?syz ?srz ?shz); (case sgz => rfl); (case soz => rfl); (case sxz => rfl); (case syz => rfl); (case srz => exact HLS.out)))
  exact bodyPost_ret (results_hd1 rfl _ _ R _ _ _ rfl (setRow_heap _ _ _ _ _ _ HP7.out.res) HP7.out.com) rfl (HP7.out.out HF.out HN.out (by rw [HR.out]; exact Nat.le_refl _) HT0.out HE.out)
end Go.Proofs.YtmaolmogccknbaaDoor.hdr
