/-
  The landed wire: Ids (none, if not all are there).
  The landed op: read.
-/
import Derived.Test.YtmaolmogccknbaaDoorWia
import Derived.Test.YtmaolmogccknbaaDoorOppu
import Derived.Test.YtmaolmogccknbaaDoorIdlc
namespace Go.Proofs.YtmaolmogccknbaaDoor.opn
open Go.RowKit Go.Proofs.YtmaolmogccknbaaDoor.mem Go.Proofs.YtmaolmogccknbaaDoor.sha Go.Proofs.YtmaolmogccknbaaDoor.ids

theorem lrdL_len : ∀ (n : Nat) (st : St), (rdL n st).1.length = n
  | 0, _ => rfl
  | n + 1, st => by show (_ :: _).length = _; rw [List.length_cons, lrdL_len n]
theorem lrdL_snoc : ∀ (n : Nat) (st : St), rdL (n + 1) st = ((rdL n st).1 ++ [(rdI (rdL n st).2).1], (rdI (rdL n st).2).2)
  | 0, st => rfl
  | n + 1, st => by
    have := lrdL_snoc n (rdI st).2
    show ((rdI st).1 :: (rdL (n + 1) (rdI st).2).1, (rdL (n + 1) (rdI st).2).2) = _
    rw [this]
    rfl

/-- as the landed code reads them: none, if not all are there -/
def rdS' (st : St) : List Id × St := (if (rdS st).2.2 = 0 then (rdS st).1 else [], (rdS st).2)
theorem rdS'_snd (st : St) : (rdS' st).2 = (rdS st).2 := rfl
theorem rdS'_ok (st : St) (h : (rdS st).2.2 = 0) : rdS' st = rdS st := by unfold rdS'; rw [if_pos h]
theorem rdS_le (st : St) : (rdS st).1.length ≤ 255 := by
  show (rdL (rdN 1 st).1.toNat (rdN 1 st).2).1.length ≤ 255
  rw [lrdL_len]
  have h1 := rdN1_lt st
  have h2 := rdN_nonneg 1 st
  omega
theorem rdS'_le (st : St) : (rdS' st).1.length ≤ 255 := by
  unfold rdS'
  split
  · exact rdS_le st
  · exact Nat.zero_le _
set_option maxHeartbeats 2000000 in
set_option maxRecDepth 100000 in
theorem rids_s (F : Nat → Prop) (g : Nat) (st : St) (w : World) (h : RdL w g st) (hF : F g) (hn : New F w) :
    Calls Tryd.prog 86 #[.pointer (some ⟨g, 0, none⟩)] w fun e w' => ∃ v, e = .returned v ∧ OwnI w' (w.heap.size ≤ ·) v (rdS' st).1 ∧ RdL w' g (rdS' st).2 ∧ Turn F w w' := by
  have hglt := h.lt
  have HNUM := Lib.hid (lnum1_s (fun k => k = g ∨ w.heap.size ≤ k) g st w h (.inl rfl) (fun k hk => .inr hk))
  obtain ⟨m, hm⟩ : ∃ n, n = (rdN 1 st).1 := ⟨_, rfl⟩
  obtain ⟨s1, hs1⟩ : ∃ s, s = (rdN 1 st).2 := ⟨_, rfl⟩
  obtain ⟨X, hX⟩ : ∃ X, X = (rdS' st).1 := ⟨_, rfl⟩
  have HT : Hid ((rdS' st).2 = (rdL m.toNat s1).2) := Lib.hid (by rw [hm, hs1]; rfl)
  have HXX : Hid (X = if (rdL m.toNat s1).2.2 = 0 then (rdL m.toNat s1).1 else []) := Lib.hid (by rw [hX, hm, hs1]; rfl)
  have hm0 : 0 ≤ m := by rw [hm]; exact rdN_nonneg 1 st
  have hm1 : m < 256 := by rw [hm]; exact rdN1_lt st
  rw [← hm, ← hs1] at HNUM
  rw [← hX, HT.out]
  clear hX
  obtain ⟨S, hS⟩ : ∃ S, S = w.heap.size := ⟨_, rfl⟩
  rw [← hS] at HNUM ⊢
  have HS := Lib.hid hS
  have HG := Lib.hid hglt
  have HF := Lib.hid hF
  have HN := Lib.hid hn
  clear h hm hs1 HT hS hglt hF hn
  go_enter Tryd.func86, Tryd.ntmps86
  go_wp2_with (go_at_call 54; (with_reducible refine HNUM.out.mono ?_); rintro e w2 ⟨rfl, hr2, ht2⟩; have HR2 := Lib.hid hr2; have HT2 := Lib.hid ht2; clear hr2 ht2)
  go_loopw [3, 6] (fun l i wr => ∃ k : Nat, k ≤ m.toNat ∧ i = .int .i64 (k : Int) ∧ OwnI wr (S ≤ ·) l (rdL k s1).1 ∧ RdL wr g (rdL k s1).2 ∧ Turn (fun b => b = g ∨ S ≤ b) w wr) (fun _ i _ => m.toNat - (intOf i).toNat)
  case atStart => exact ⟨0, Nat.zero_le _, rfl, OwnI.nil _ _, HR2.out, HT2.out⟩
  case round =>
    clear HNUM HR2 HT2
    obtain ⟨k, hk, rfl, ho, hr, ht⟩ := hrel
    obtain ⟨ad, cap, hvf, -, -⟩ := ho.form
    obtain ⟨l, hl⟩ : ∃ l', l' = (rdL k s1).1 := ⟨_, rfl⟩
    obtain ⟨s2, hs2⟩ : ∃ s', s' = (rdL k s1).2 := ⟨_, rfl⟩
    have hln : l.length = k := by rw [hl, lrdL_len]
    have hsn := lrdL_snoc k s1
    rw [← hl, ← hs2] at hsn
    rw [← hl] at ho
    rw [← hs2] at hr
    rw [← hl, hln] at hvf
    subst hvf
    have HSN := Lib.hid hsn
    have HO := Lib.hid ho
    have HR := Lib.hid hr
    have HT := Lib.hid ht
    have HLN := Lib.hid hln
    have HK := Lib.hid hk
    have k0 : (0 : Int) ≤ (k : Int) := Int.natCast_nonneg _
    have hsz : S ≤ wr.heap.size := by rw [HS.out]; exact ht.size
    have HSZ := Lib.hid hsz
    by_cases hlt : k < m.toNat
    · have kI : (k : Int) < m := by omega
      have HID := Lib.hid (rid_s (fun b => b = g ∨ wr.heap.size ≤ b) g s2 wr hr (.inl rfl) (fun b hb => .inr hb))
      obtain ⟨y, hy⟩ : ∃ y, y = (rdI s2).1 := ⟨_, rfl⟩
      have hy32 : y.length = 32 := by rw [hy]; exact rdI_len s2
      rw [← hy] at HID HSN
      have HY := Lib.hid hy32
      clear hsn ho hr ht hl hs2 hy hy32 hk hsz hln hlt
      go_wp2_with (first
        | (go_at_call 87; (with_reducible refine HID.out.mono ?_); rintro e w3 ⟨rfl, hr3, ht3⟩; have hng : ¬ (fun b => b = g ∨ wr.heap.size ≤ b) g → False := fun hh => hh (.inl rfl); have ho3 := HO.out.turn ht3 (fun b hb hc => by have h1 := HO.out.lt hb; have h2 : S ≤ b := HO.out.2.2 b hb; have h3 := HS.out; have h4 := HG.out; rcases hc with e | e <;> omega); obtain ⟨v4, w4, hrun, ho4, ht4⟩ := run_append_one ho3 HY.out (by have := HLN.out; have := HK.out; omega) (fun b hb => Nat.le_trans HSZ.out (Nat.le_trans ht3.size hb)) 24; have HR3 := Lib.hid hr3; have HT3 := Lib.hid ht3; have HO3 := Lib.hid ho3; have HO4 := Lib.hid ho4; have HT4 := Lib.hid ht4; clear hr3 ht3 ho3 ho4 ht4 hng HID)
        | ((with_reducible refine step_build1 (x := .tmp 10) (y := ?byrb1) ?bgrb1 ?borb1 ?bxrb1 ?blrb1 ?bhrb1); (case bgrb1 => rfl); (case borb1 => rfl); (case bxrb1 => rfl); (case blrb1 => exact HY.out))
        | ((with_reducible refine step_append (s := .tmp 8) (x := .tmp 11) (t := 24) (vs := ?asra1) (vx := ?axra1) (v' := ?avra1) (w' := ?awra1) ?agra1 ?aora1 ?apra1 ?aqra1 ?arra1 ?ahra1); (case agra1 => rfl); (case aora1 => rfl); (case apra1 => rfl); (case aqra1 => rfl); (case arra1 => exact hrun)))
      go_roundw
      case rel =>
        have hg4 : ∀ b, (Value.slice ad k cap).ownBlock = some b ∨ w3.heap.size ≤ b → b ≠ g ∧ S ≤ b := fun b hb => by
          have h3 := HS.out; have h4 := HG.out; have h5 := HSZ.out; have h6 := HT3.out.size
          rcases hb with hb | hb
          · have h2 : S ≤ b := HO3.out.2.2 b hb
            omega
          · omega
        refine ⟨k + 1, by omega, by push_cast; rfl, ?_, ?_, ?_⟩
        · rw [HSN.out]; exact HO4.out
        · rw [HSN.out]; exact HR3.out.turn HT4.out fun hb => (hg4 g hb).1 rfl
        · exact (HT.out.trans (HT3.out.mono fun b hb => hb.imp id fun h => Nat.le_trans HSZ.out h)).trans (HT4.out.mono fun b hb => .inr (hg4 b hb).2)
      case measure => simp [intOf]; omega
    · obtain rfl : k = m.toNat := by omega
      have kI : m ≤ ((m.toNat : Nat) : Int) := by omega
      have HL := Lib.hid hl
      have HS2 := Lib.hid hs2
      have HER := Lib.hid (lerr_s g s2 wr hr)
      obtain ⟨er, her⟩ : ∃ e, e = s2.2 := ⟨_, rfl⟩
      rw [← her] at HER
      have HQ := Lib.hid her
      clear hlt hsn ho hr ht hl hs2 hk hsz hln her
      by_cases h0 : er = 0
      · subst h0
        go_wp2_with (go_at_call 55; (with_reducible refine HER.out.mono ?_); rintro e w3 ⟨rfl, rfl⟩)
        go_ret
        refine ⟨_, rfl, ?_, HS2.out ▸ HR.out, HT.out.mono fun b hb => ?_⟩
        · rw [HXX.out, ← HL.out, ← HS2.out, if_pos HQ.out.symm]; exact HO.out
        · rcases hb with e | e
          · exact e ▸ HF.out
          · exact HN.out b (by have := HS.out; omega)
      · have hne : (er != 0) = true := bne_iff_ne.2 h0
        have HNE := Lib.hid h0
        clear h0
        go_wp2_with (go_at_call 55; (with_reducible refine HER.out.mono ?_); rintro e w3 ⟨rfl, rfl⟩)
        go_ret
        refine ⟨_, rfl, ?_, HS2.out ▸ HR.out, HT.out.mono fun b hb => ?_⟩
        · rw [HXX.out, ← HS2.out, if_neg (by rw [← HQ.out]; exact HNE.out)]; exact OwnI.nil _ _
        · rcases hb with e | e
          · exact e ▸ HF.out
          · exact HN.out b (by have := HS.out; omega)
end Go.Proofs.YtmaolmogccknbaaDoor.opn

namespace Go.Proofs.YtmaolmogccknbaaDoor.opn
open Go.RowKit Go.Proofs.YtmaolmogccknbaaDoor.mem Go.Proofs.YtmaolmogccknbaaDoor.sha Go.Proofs.YtmaolmogccknbaaDoor.ids

/-- a part as the landed code reads it -/
def part' (o : Opn) (st : St) : Part → Opn × St
  | .N => ({ o with n := (rdN 4 st).1 - off o.k }, (rdN 4 st).2)
  | .K => ({ o with key := (rdT st).1 }, (rdT st).2)
  | .V => ({ o with val := (rdT st).1 }, (rdT st).2)
  | .R => ({ o with ref := (rdI st).1 }, (rdI st).2)
  | .S => ({ o with refs := (rdS' st).1 }, (rdS' st).2)
def parts' (o : Opn) : List Part → St → Opn × St
  | [], st => (o, st)
  | p :: ps, st => parts' (part' o st p).1 ps (part' o st p).2
theorem part'_snd (o o' : Opn) (st : St) (p : Part) : (part' o st p).2 = (part o' st p).2 := by cases p <;> rfl
theorem parts'_snd : ∀ (ps : List Part) (o o' : Opn) (st : St), (parts' o ps st).2 = (parts o' ps st).2
  | [], _, _, _ => rfl
  | p :: ps, o, o', st => by
    show (parts' (part' o st p).1 ps (part' o st p).2).2 = (parts (part o' st p).1 ps (part o' st p).2).2
    rw [part'_snd o o' st p]
    exact parts'_snd ps _ _ _
theorem parts'_ok : ∀ (ps : List Part) (o : Opn) (st : St), (parts o ps st).2.2 = 0 → parts' o ps st = parts o ps st
  | [], _, _, _ => rfl
  | p :: ps, o, st, h => by
    have h1 : (part o st p).2.2 = 0 := parts_err ps _ _ h
    have h2 : part' o st p = part o st p := by
      cases p
      case S => show ({ o with refs := (rdS' st).1 }, (rdS' st).2) = ({ o with refs := (rdS st).1 }, (rdS st).2); rw [rdS'_ok st h1]
      all_goals rfl
    show parts' (part' o st p).1 ps (part' o st p).2 = parts (part o st p).1 ps (part o st p).2
    rw [h2]
    exact parts'_ok ps _ _ h

theorem part'_ref {o : Opn} (h : o.ref.length = 32) (st : St) (p : Part) : (part' o st p).1.ref.length = 32 := by
  cases p <;> first | exact h | exact rdI_len st
theorem parts'_ref : ∀ (ps : List Part) {o : Opn}, o.ref.length = 32 → ∀ st : St, (parts' o ps st).1.ref.length = 32
  | [], _, h, _ => h
  | p :: ps, _, h, st => parts'_ref ps (part'_ref h st p) _
theorem part'_refs {o : Opn} (h : o.refs.length ≤ 255) (st : St) (p : Part) : (part' o st p).1.refs.length ≤ 255 := by
  cases p
  case S => exact rdS'_le st
  all_goals exact h
theorem parts'_refs : ∀ (ps : List Part) {o : Opn}, o.refs.length ≤ 255 → ∀ st : St, (parts' o ps st).1.refs.length ≤ 255
  | [], _, h, _ => h
  | p :: ps, _, h, st => parts'_refs ps (part'_refs h st p) _

/-- what stands while a part is read: the operation so far, its refs of the call's own, the Reader, the result -/
structure RdP (w0 : World) (g R S : Nat) (o : Opn) (st : St) (v : Value) (w : World) : Prop where
  op : Blk w S 26 (opc o v).toArray
  own : OwnI w (S < ·) v o.refs
  rdr : RdL w g st
  res : Blk w R 26 (opc zop nv).toArray
  turn : Turn (fun b => b = g ∨ R ≤ b) w0 w
  gR : g < R
  RS : R < S
  len : o.refs.length ≤ 255
  ref : o.ref.length = 32
section
variable {w0 : World} {g R S : Nat} {o o' : Opn} {st st2 : St} {v : Value} {w w2 : World}
theorem RdP.read (h : RdP w0 g R S o st v w) (ht : Turn (fun b => b = g ∨ w.heap.size ≤ b) w w2) (hr : RdL w2 g st2) : RdP w0 g R S o st2 v w2 := by
  have h1 := h.op.lt
  have h2 := h.gR
  have h3 := h.RS
  refine ⟨h.op.turn ht (fun hb => by rcases hb with e | e <;> omega), h.own.turn ht (fun k hk hb => ?_), hr, h.res.turn ht (fun hb => by rcases hb with e | e <;> omega), h.turn.trans (ht.mono fun b hb => hb.elim .inl fun e => .inr (by omega)), h2, h3, h.len, h.ref⟩
  have a : S < k := h.own.2.2 k hk
  have b := h.own.lt hk
  rcases hb with e | e <;> omega
theorem RdP.put (h : RdP w0 g R S o st v w) (ht : Turn (· = S) w w2) (hS : Blk w2 S 26 (opc o' v).toArray) (hrefs : o'.refs = o.refs) (href : o'.ref.length = 32) : RdP w0 g R S o' st v w2 := by
  have h2 := h.gR
  have h3 := h.RS
  refine ⟨hS, ?_, h.rdr.turn ht (by omega), h.res.turn ht (by omega), h.turn.trans (ht.mono fun b hb => .inr (by omega)), h2, h3, by rw [hrefs]; exact h.len, href⟩
  rw [hrefs]
  exact h.own.turn ht fun k hk e => by
    have a : S < k := h.own.2.2 k hk
    omega
theorem RdP.puts (h : RdP w0 g R S o st v w) {u : Value} {L : List Id} (ho : OwnI w (S < ·) u L) (hl : L.length ≤ 255) : RdP w0 g R S { o with refs := L } st u (w.setCell ⟨S, 36, none⟩ u) := by
  have h2 := h.gR
  have h3 := h.RS
  have ht : Turn (· = S) w (w.setCell ⟨S, 36, none⟩ u) := (Turn.refl (· = S) w).setCell rfl _
  refine ⟨opm_refs h.op h.ref L u, ho.turn ht (fun k hk e => ?_), h.rdr.turn ht (by omega), h.res.turn ht (by omega), h.turn.trans (ht.mono fun b hb => .inr (by omega)), h2, h3, hl, h.ref⟩
  have a : S < k := ho.2.2 k hk
  omega
theorem RdP.putn (h : RdP w0 g R S o st v w) (n : Int) : RdP w0 g R S { o with n := n } st v (w.setCell ⟨S, 1, none⟩ (.int .i64 n)) := h.put ((Turn.refl (· = S) w).setCell rfl _) (opm_n h.op n) rfl h.ref
theorem RdP.putk (h : RdP w0 g R S o st v w) (l : List UInt8) : RdP w0 g R S { o with key := l } st v (w.setCell ⟨S, 2, none⟩ (.string (oct.tx l))) := h.put ((Turn.refl (· = S) w).setCell rfl _) (opm_key h.op l) rfl h.ref
theorem RdP.putv (h : RdP w0 g R S o st v w) (l : List UInt8) : RdP w0 g R S { o with val := l } st v (w.setCell ⟨S, 3, none⟩ (.string (oct.tx l))) := h.put ((Turn.refl (· = S) w).setCell rfl _) (opm_val h.op l) rfl h.ref
theorem RdP.puti (h : RdP w0 g R S o st v w) (y : Id) (hy : y.length = 32) : RdP w0 g R S { o with ref := y } st v (w.setRow S (opc { o with ref := y } v).toArray) := h.put (turn_row w S _) (setRow_heap w S _ _ _ _ h.op) rfl hy
theorem RdP.one (h : RdP w0 g R S o st v w) : v.oneCell' = true := rdv_one ((h.own.rdv (Nat.le_trans h.len (by decide))).1)
theorem RdP.last (h : RdP w0 g R S o st v w) : (Instr.storeAt 26 (.pointer (some ⟨R, 0, none⟩)) (opv o v)).run Tryd.prog w = .ok () (w.setRow R (opc o v).toArray) := run_store_op h.res (opc_size _ _ zid_len) o v h.ref h.one
end
theorem results_op1 {fn : Func} {p : Tmp} (h : fn.results = #[.cell p 26]) (tmps : Array Value) (w : World) (g : Nat) (t : TypeId) (o : Opn) (v : Value)
    (hp : tmps.getD p undef = .pointer (some ⟨g, 0, none⟩)) (hg : Blk w g t (opc o v).toArray) (hr : o.ref.length = 32) :
    (results fn tmps).run Tryd.prog w = .ok (opv o v) w := by
  have hp' : tmps[p]?.getD undef = .pointer (some ⟨g, 0, none⟩) := by simpa using hp
  have hl := run_loadVar_row w g t 26 (opc o v).toArray (0, 0) _ hg Tryd.underlying26 rfl (by rw [info_op, opc_size o v hr])
  simp [results, h, hp', asAddr, hl, opv]
/-- what read answers and leaves -/
def RdOut (F : Nat → Prop) (g : Nat) (k : Int) (st : St) (w : World) (e : Ending) (w' : World) : Prop := ∃ v, e = .returned (opv (parts' (kop k) (has k) st).1 v) ∧ OwnI w' (w.heap.size ≤ ·) v (parts' (kop k) (has k) st).1.refs ∧ RdL w' g (parts' (kop k) (has k) st).2 ∧ Turn F w w'
theorem RdP.out {F : Nat → Prop} {w0 : World} {g R S : Nat} {k : Int} {st s2 : St} {v : Value} {w w1 : World} {o : Opn} (h : RdP w1 g R S o s2 v w) (hF : F g) (hn : New F w0) (hR : w0.heap.size ≤ R) (h0 : Turn F w0 w1) (he : parts' (kop k) (has k) st = (o, s2)) :
    RdOut F g k st w0 (.returned (opv o v)) (w.setRow R (opc o v).toArray) := by
  have h2 := h.gR
  have h3 := h.RS
  have ht := turn_row w R (opc o v).toArray
  refine ⟨v, by rw [he], ?_, ?_, ?_⟩
  · rw [he]
    exact (h.own.turn ht fun k hk e => by have a : S < k := h.own.2.2 k hk; omega).mono fun b hb => by omega
  · rw [he]
    exact h.rdr.turn ht (by omega)
  · exact (h0.trans (h.turn.mono fun b hb => hb.elim (fun e => e ▸ hF) fun e => hn b (by omega))).trans (ht.mono fun b hb => hn b (by omega))
end Go.Proofs.YtmaolmogccknbaaDoor.opn
