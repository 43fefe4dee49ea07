/-
  The landed entry: read.
-/
import Derived.Test.YtbhkegdohiekfaaDoorEla
import Derived.Test.YtbhkegdohiekfaaDoorRdle
import Derived.Test.YtbhkegdohiekfaaDoorOctsl
namespace Go.Proofs.YtbhkegdohiekfaaDoor.ent
open Go.RowKit Go.Proofs.YtbhkegdohiekfaaDoor.mem Go.Proofs.YtbhkegdohiekfaaDoor.sha Go.Proofs.YtbhkegdohiekfaaDoor.ids
open Go.Proofs.YtbhkegdohiekfaaDoor.opn (b1 b2 b4 num txt idl byte rd rdN rdT rdI rdS rdL St Reads Stays endE zid mkId)
open Go.Proofs.YtbhkegdohiekfaaDoor.topic (kindOf)

open Go.Proofs.YtbhkegdohiekfaaDoor.opn (RdL Sr lraw_s rtext_s rid_s rdI_len)
theorem lleft_s (g : Nat) (st : St) (w : World) (h : RdL w g st) :
    Calls Tryd.prog 53 #[.pointer (some ⟨g, 0, none⟩)] w fun e w' => (∃ n : Nat, e = .returned (.int .i64 (n : Int)) ∧ rd n st = rdB st) ∧ w = w' := by
  obtain ⟨s, e, hx, hs, -⟩ := h
  refine (oct.left_any g s e w hx).mono ?_
  rintro x w2 ⟨rfl, rfl⟩
  refine ⟨?_, rfl⟩
  obtain ⟨h1, h2⟩ := hs
  simp only at h1 h2
  unfold oct.rLeft rdB
  by_cases h0 : e = 0
  · refine ⟨s.size, by rw [if_neg (fun h => h h0)], ?_⟩
    rw [h2 h0, oct.tx_size]
  · refine ⟨0, by rw [if_pos h0]; rfl, ?_⟩
    unfold rd
    rw [if_pos (by rw [h1]; exact h0), if_pos (by rw [h1]; exact h0)]
theorem lbody_s (F : Nat → Prop) (g : Nat) (st : St) (n : Nat) (hnb : rd n st = rdB st) (w : World) (h : RdL w g st) (hF : F g) (hn : New F w) :
    Calls Tryd.prog 52 #[.pointer (some ⟨g, 0, none⟩), .int .i64 (n : Int)] w fun e w' => e = .returned (.string (oct.tx (rdB st).1)) ∧ RdL w' g (rdB st).2 ∧ Turn F w w' := by
  have := lraw_s F g st n (Int.natCast_nonneg _) w h hF hn
  rw [Int.toNat_natCast, hnb] at this
  exact this
/-- what the landed code reads behind the kind -/
def readE (k : Int) (st : St) : En × St :=
  if kindE k = 1 then (⟨k, [], (rdB st).1, zid⟩, (rdB st).2)
  else if kindE k = 2 then (⟨k, [], [], (rdI st).1⟩, (rdI st).2)
  else if kindE k = 3 then (⟨k, (rdT st).1, [], zid⟩, (rdT st).2)
  else if kindE k = 4 then (⟨k, (rdT st).1, (rdB (rdT st).2).1, zid⟩, (rdB (rdT st).2).2)
  else (⟨k, [], [], zid⟩, st)
def LrOut (F : Nat → Prop) (g : Nat) (k : Int) (st : St) (w : World) (e : Ending) (w' : World) : Prop := e = .returned (env (readE k st).1) ∧ RdL w' g (readE k st).2 ∧ Turn F w w'
/-- an entry that was told, held in a block of its own -/
def lheld (w : World) (e : En) : World := (w.alloc (.cells (enc zen).toArray 25)).setRow w.heap.size (enc e).toArray
theorem run_lheld (w : World) (e : En) (hr : e.commit.length = 32) : (Instr.storeAt 25 (.pointer (some ⟨w.heap.size, 0, none⟩)) (env e)).run Tryd.prog (w.alloc (.cells (enc zen).toArray 25)) = .ok () (lheld w e) :=
  run_store_en (Blk.new w 25 (enc zen).toArray) (enc_size _ zlen) e hr
theorem lheld_blk (w : World) (e : En) : Blk (lheld w e) w.heap.size 25 (enc e).toArray := setRow_heap _ _ _ _ _ _ (Blk.new w 25 (enc zen).toArray)
theorem lheld_below (w : World) (e : En) : Below w.heap.size w (lheld w e) := below_row' ((Below.refl _ _).alloc (Nat.le_refl _) _) (Nat.le_refl _) _
/-- what stands while the parts are read: the result's block, the entry's box, the Reader -/
structure LrP (F : Nat → Prop) (w : World) (g R S : Nat) (o : En) (st : St) (u : World) : Prop where
  en : Blk u S 25 (enc o).toArray
  res : Blk u R 25 (enc zen).toArray
  rdr : RdL u g st
  turn : Turn F w u
  gR : g < R
  RS : R < S
  wR : w.heap.size ≤ R
  cm : o.commit.length = 32
section
variable {F : Nat → Prop} {w u u2 : World} {g R S : Nat} {o o2 : En} {st st2 : St}
theorem LrP.read (p : LrP F w g R S o st u) (hF : F g) (hn : New F w) (ht : Turn (fun b => b = g ∨ S < b) u u2) (hr : RdL u2 g st2) : LrP F w g R S o st2 u2 := by
  have h1 := p.en.lt
  have h2 := p.gR
  have h3 := p.RS
  have h4 := p.turn.size
  have h5 := p.wR
  refine ⟨p.en.turn ht (by omega), p.res.turn ht (by omega), hr, p.turn.trans (ht.mono fun b hb => ?_), h2, h3, p.wR, p.cm⟩
  rcases hb with e | e
  · exact e ▸ hF
  · exact hn b (by omega)
theorem LrP.put (p : LrP F w g R S o st u) (hn : New F w) (ht : Turn (· = S) u u2) (hS : Blk u2 S 25 (enc o2).toArray) (hc : o2.commit.length = 32) : LrP F w g R S o2 st u2 := by
  have h2 := p.gR
  have h3 := p.RS
  have h4 := p.wR
  exact ⟨hS, p.res.turn ht (by omega), p.rdr.turn ht (by omega), p.turn.trans (ht.mono fun b hb => hn b (by omega)), h2, h3, h4, hc⟩
theorem LrP.putt (p : LrP F w g R S o st u) (hn : New F w) (l : List UInt8) : LrP F w g R S { o with topic := l } st (u.setCell ⟨S, 1, none⟩ (.string (oct.tx l))) := p.put hn ((Turn.refl (· = S) u).setCell rfl _) (enm_topic p.en l) p.cm
theorem LrP.putb (p : LrP F w g R S o st u) (hn : New F w) (l : List UInt8) : LrP F w g R S { o with body := l } st (u.setCell ⟨S, 2, none⟩ (.string (oct.tx l))) := p.put hn ((Turn.refl (· = S) u).setCell rfl _) (enm_body p.en l) p.cm
theorem LrP.puti (p : LrP F w g R S o st u) (hn : New F w) (y : List UInt8) (hy : y.length = 32) : LrP F w g R S { o with commit := y } st (u.setRow S (enc { o with commit := y }).toArray) := p.put hn (turn_row u S _) (setRow_heap u S _ _ _ _ p.en) hy
theorem LrP.last (p : LrP F w g R S o st u) : (Instr.storeAt 25 (.pointer (some ⟨R, 0, none⟩)) (env o)).run Tryd.prog u = .ok () (u.setRow R (enc o).toArray) := run_store_en p.res (enc_size _ zlen) o p.cm
theorem LrP.text (p : LrP F w g R S o st u) : Calls Tryd.prog 50 #[.pointer (some ⟨g, 0, none⟩)] u fun e u' => e = .returned (.string (oct.tx (rdT st).1)) ∧ RdL u' g (rdT st).2 ∧ Turn (fun b => b = g ∨ S < b) u u' :=
  rtext_s _ g st u p.rdr (.inl rfl) (fun b hb => .inr (Nat.lt_of_lt_of_le p.en.lt hb))
theorem LrP.id (p : LrP F w g R S o st u) : Calls Tryd.prog 51 #[.pointer (some ⟨g, 0, none⟩)] u fun e u' => e = .returned (idv (rdI st).1) ∧ RdL u' g (rdI st).2 ∧ Turn (fun b => b = g ∨ S < b) u u' :=
  rid_s _ g st u p.rdr (.inl rfl) (fun b hb => .inr (Nat.lt_of_lt_of_le p.en.lt hb))
theorem LrP.body (p : LrP F w g R S o st u) (n : Nat) (hnb : rd n st = rdB st) : Calls Tryd.prog 52 #[.pointer (some ⟨g, 0, none⟩), .int .i64 (n : Int)] u fun e u' => e = .returned (.string (oct.tx (rdB st).1)) ∧ RdL u' g (rdB st).2 ∧ Turn (fun b => b = g ∨ S < b) u u' :=
  lbody_s _ g st n hnb u p.rdr (.inl rfl) (fun b hb => .inr (Nat.lt_of_lt_of_le p.en.lt hb))
/-- at the end: the result's block holds it -/
theorem LrP.out (p : LrP F w g R S o st u) (hn : New F w) {k : Int} {s0 : St} (he : readE k s0 = (o, st)) (e : Ending) (hr : e = .returned (env o)) : LrOut F g k s0 w e (u.setRow R (enc o).toArray) := by
  have h2 := p.gR
  have h3 := p.RS
  have h4 := p.wR
  have ht := turn_row u R (enc o).toArray
  unfold LrOut
  rw [he]
  exact ⟨hr, p.rdr.turn ht (by omega), p.turn.trans (ht.mono fun b hb => hn b (by omega))⟩
end
theorem results_en1 {fn : Func} {p : Tmp} (h : fn.results = #[.cell p 25]) (tmps : Array Value) (w : World) (g : Nat) (t : TypeId) (e : En)
    (hp : tmps.getD p undef = .pointer (some ⟨g, 0, none⟩)) (hg : Blk w g t (enc e).toArray) (hr : e.commit.length = 32) :
    (results fn tmps).run Tryd.prog w = .ok (env e) w := by
  have hp' : tmps[p]?.getD undef = .pointer (some ⟨g, 0, none⟩) := by simpa using hp
  have hl := run_loadVar_row w g t 25 (enc e).toArray (0, 0) _ hg Tryd.underlying25 rfl (by rw [info_en, enc_size e hr])
  simp [results, h, hp', asAddr, hl, env]
set_option maxHeartbeats 8000000 in
set_option maxRecDepth 100000 in
theorem lread_any (F : Nat → Prop) (g : Nat) (k : Int) (st : St) (w : World) (h : RdL w g st) (hF : F g) (hn : New F w) :
    Calls Tryd.prog 35 #[.pointer (some ⟨g, 0, none⟩), .int .i64 k] w fun e w' => LrOut F g k st w e w' := by
  obtain ⟨w1, hw1⟩ : ∃ u, u = w.alloc (.cells (enc zen).toArray 25) := ⟨_, rfl⟩
  obtain ⟨R, hR⟩ : ∃ S, S = w.heap.size := ⟨_, rfl⟩
  obtain ⟨S, hS⟩ : ∃ S, S = w1.heap.size := ⟨_, rfl⟩
  have hsz : S = R + 1 := by rw [hS, hw1, hR]; simp
  have hHH := run_lheld w1 (ken k) (ken_commit k)
  obtain ⟨w2, hw2⟩ : ∃ u, u = lheld w1 (ken k) := ⟨_, rfl⟩
  have hk2 := lheld_blk w1 (ken k)
  have hb2 := lheld_below w1 (ken k)
  rw [← hw2, ← hS] at hk2
  rw [← hw2] at hHH hb2
  have hP : LrP F w g R S (ken k) st w2 := by
    have h1 : Blk w1 R 25 (enc zen).toArray := by rw [hw1, hR]; exact Blk.new w _ _
    have ht1 : Turn F w w1 := by rw [hw1]; exact (Turn.refl F w).alloc hn _
    have ht2 : Turn F w1 w2 := Turn.fresh hb2 (hn.turn ht1)
    have hg := h.lt
    refine ⟨hk2, h1.below hb2 h1.lt, ?_, ht1.trans ht2, by omega, by omega, by omega, ken_commit k⟩
    have hta : Turn (w.heap.size ≤ ·) w w2 := (show Turn (w.heap.size ≤ ·) w w1 by rw [hw1]; exact (Turn.refl _ w).alloc (fun _ h => h) _).trans (Turn.fresh hb2 fun b hb => by have : w.heap.size ≤ w1.heap.size := ht1.size; omega)
    exact h.turn hta (by omega)
  have HHH := Lib.hid hHH
  have HP := Lib.hid hP
  have HR := Lib.hid hR
  have HS := Lib.hid hS
  have HW := Lib.hid hw1
  have HF := Lib.hid hF
  have HN := Lib.hid hn
  have hhas := fun u => lhas_any k u
  have hkc := kindE_cases k
  clear hHH hP hR hS hw1 hw2 hk2 hb2 hsz h hF hn
  rcases hkc with ⟨a, -⟩ | ⟨a, -⟩ | ⟨a, -⟩ | ⟨a, -⟩ | ⟨a, -⟩
  · have HK : Hid (∀ u, Calls Tryd.prog 19 #[.int .i64 k] u fun x w' => x = .returned (.int .i64 4) ∧ u = w') := Lib.hid (by
      have e1 : hasK k = 4 := by unfold hasK; rw [if_pos a]
      rw [e1] at hhas
      exact hhas)
    have HE : Hid (readE k st = (⟨k, [], (rdB st).1, zid⟩, (rdB st).2)) := Lib.hid (by unfold readE; rw [if_pos a])
    clear a hhas
    go_enter Tryd.func35, Tryd.ntmps35
    go_upto_region 1 with fail
    refine wp_at HW.out.symm ?_
    rw [← HR.out]
    clear HW
    go_upto_region 2 with (first
      | ((with_reducible refine step_build (t := 25) (parts := #[(0, .tmp 7)]) (ps := #[(0, .int .i64 k)]) (v := ?bvr1) ?bgr1 ?bor1 ?bxr1 ?brr1 ?bhr1); (case bgr1 => rfl); (case bor1 => rfl); (case bxr1 => (first | rfl | simp)); (case brr1 => exact run_build_k _ k))
      | ((with_reducible refine step_store_run (t := 25) (x := .tmp 5) (y := .tmp 8) (p := ?spr1h) (v := ?svr1h) (w' := ?swr1h) ?sgr1h ?sor1h ?sxr1h ?syr1h ?srr1h ?shr1h); (case sgr1h => rfl); (case sor1h => rfl); (case sxr1h => rfl); (case syr1h => rfl); (case srr1h => exact HHH.out)))
    rw [← HS.out]
    clear HHH HS
    have HLF := Lib.hid (lleft_s g _ _ HP.out.rdr)
    obtain ⟨bb, hbb⟩ : ∃ t, t = oct.tx (rdB st).1 := ⟨_, rfl⟩
    have HBB := Lib.hid hbb
    clear hbb
    go_wp2_with (first
      | (go_at_call 19; (with_reducible refine (HK.out _).mono ?_); rintro e w3 ⟨rfl, rfl⟩)
      | (go_at_call 53; (with_reducible refine HLF.out.mono ?_); rintro e w6 ⟨⟨n, rfl, hnb⟩, rfl⟩; have HBD := Lib.hid (HP.out.body n hnb); clear hnb)
      | (go_at_call 52; (with_reducible refine HBD.out.mono ?_); rintro e w7 ⟨rfl, hr7, ht7⟩; have hp7 := HP.out.read HF.out HN.out ht7 hr7; have cb := (EnBlk.of hp7.en hp7.cm).body; have hfb := hp7.en.frozen 2; have hp8 := hp7.putb HN.out (rdB st).1; rw [← HBB.out] at hp8 ⊢; have HP8 := Lib.hid hp8; have HLD := Lib.hid (run_load_en hp8.en hp8.cm); have HST := Lib.hid hp8.last; clear hp7 hp8 hr7 ht7)
      | ((with_reducible refine step_load (t := 25) (x := .tmp 5) (p := ?lpr1l) (v := ?lvr1l) ?lgr1l ?lor1l ?lxr1l ?lrr1l ?lhr1l); (case lgr1l => rfl); (case lor1l => rfl); (case lxr1l => rfl); (case lrr1l => exact HLD.out))
      | ((with_reducible refine step_store_run (t := 25) (x := .tmp 4) (y := .tmp 31) (p := ?spr1s) (v := ?svr1s) (w' := ?swr1s) ?sgr1s ?sor1s ?sxr1s ?syr1s ?srr1s ?shr1s); (case sgr1s => rfl); (case sor1s => rfl); (case sxr1s => rfl); (case syr1s => rfl); (case srr1s => exact HST.out)))
    refine bodyPost_ret (results_en1 rfl _ _ R 25 _ rfl (setRow_heap _ _ _ _ _ _ HP8.out.res) HP8.out.cm) rfl (HP8.out.out HN.out HE.out _ rfl)
  · have HK : Hid (∀ u, Calls Tryd.prog 19 #[.int .i64 k] u fun x w' => x = .returned (.int .i64 2) ∧ u = w') := Lib.hid (by
      have e1 : hasK k = 2 := by unfold hasK; rw [if_neg (by omega), if_pos a]
      rw [e1] at hhas
      exact hhas)
    have HE : Hid (readE k st = (⟨k, [], [], (rdI st).1⟩, (rdI st).2)) := Lib.hid (by unfold readE; rw [if_neg (by omega), if_pos a])
    clear a hhas
    go_enter Tryd.func35, Tryd.ntmps35
    go_upto_region 1 with fail
    refine wp_at HW.out.symm ?_
    rw [← HR.out]
    clear HW
    go_upto_region 2 with (first
      | ((with_reducible refine step_build (t := 25) (parts := #[(0, .tmp 7)]) (ps := #[(0, .int .i64 k)]) (v := ?bvr2) ?bgr2 ?bor2 ?bxr2 ?brr2 ?bhr2); (case bgr2 => rfl); (case bor2 => rfl); (case bxr2 => (first | rfl | simp)); (case brr2 => exact run_build_k _ k))
      | ((with_reducible refine step_store_run (t := 25) (x := .tmp 5) (y := .tmp 8) (p := ?spr2h) (v := ?svr2h) (w' := ?swr2h) ?sgr2h ?sor2h ?sxr2h ?syr2h ?srr2h ?shr2h); (case sgr2h => rfl); (case sor2h => rfl); (case sxr2h => rfl); (case syr2h => rfl); (case srr2h => exact HHH.out)))
    rw [← HS.out]
    clear HHH HS
    have HTX := Lib.hid HP.out.id
    obtain ⟨y, hy⟩ : ∃ t, t = (rdI st).1 := ⟨_, rfl⟩
    have hyl : y.length = 32 := by rw [hy]; exact rdI_len st
    rw [← hy] at HTX HE
    have HYL := Lib.hid hyl
    clear hy hyl
    go_wp2_with (first
      | (go_at_call 19; (with_reducible refine (HK.out _).mono ?_); rintro e w3 ⟨rfl, rfl⟩)
      | (go_at_call 51; (with_reducible refine HTX.out.mono ?_); rintro e w4 ⟨rfl, hr4, ht4⟩; have hp4 := HP.out.read HF.out HN.out ht4 hr4; have HSI := Lib.hid (enm_commit hp4.en hp4.cm y HYL.out); have hp5 := hp4.puti HN.out y HYL.out; have HP5 := Lib.hid hp5; have HLD := Lib.hid (run_load_en hp5.en hp5.cm); have HST := Lib.hid hp5.last; clear hp4 hp5 hr4 ht4)
      | ((with_reducible refine step_store_run (t := 23) (x := .tmp 22) (y := .tmp 21) (p := ?spr2i) (v := ?svr2i) (w' := ?swr2i) ?sgr2i ?sor2i ?sxr2i ?syr2i ?srr2i ?shr2i); (case sgr2i => rfl); (case sor2i => rfl); (case sxr2i => rfl); (case syr2i => rfl); (case srr2i => exact HSI.out))
      | ((with_reducible refine step_load (t := 25) (x := .tmp 5) (p := ?lpr2l) (v := ?lvr2l) ?lgr2l ?lor2l ?lxr2l ?lrr2l ?lhr2l); (case lgr2l => rfl); (case lor2l => rfl); (case lxr2l => rfl); (case lrr2l => exact HLD.out))
      | ((with_reducible refine step_store_run (t := 25) (x := .tmp 4) (y := .tmp 31) (p := ?spr2s) (v := ?svr2s) (w' := ?swr2s) ?sgr2s ?sor2s ?sxr2s ?syr2s ?srr2s ?shr2s); (case sgr2s => rfl); (case sor2s => rfl); (case sxr2s => rfl); (case syr2s => rfl); (case srr2s => exact HST.out)))
    refine bodyPost_ret (results_en1 rfl _ _ R 25 _ rfl (setRow_heap _ _ _ _ _ _ HP5.out.res) HP5.out.cm) rfl (HP5.out.out HN.out HE.out _ rfl)
  · have HK : Hid (∀ u, Calls Tryd.prog 19 #[.int .i64 k] u fun x w' => x = .returned (.int .i64 1) ∧ u = w') := Lib.hid (by
      have e1 : hasK k = 1 := by unfold hasK; rw [if_neg (by omega), if_neg (by omega), if_pos a]
      rw [e1] at hhas
      exact hhas)
    have HE : Hid (readE k st = (⟨k, (rdT st).1, [], zid⟩, (rdT st).2)) := Lib.hid (by unfold readE; rw [if_neg (by omega), if_neg (by omega), if_pos a])
    clear a hhas
    go_enter Tryd.func35, Tryd.ntmps35
    go_upto_region 1 with fail
    refine wp_at HW.out.symm ?_
    rw [← HR.out]
    clear HW
    go_upto_region 2 with (first
      | ((with_reducible refine step_build (t := 25) (parts := #[(0, .tmp 7)]) (ps := #[(0, .int .i64 k)]) (v := ?bvr3) ?bgr3 ?bor3 ?bxr3 ?brr3 ?bhr3); (case bgr3 => rfl); (case bor3 => rfl); (case bxr3 => (first | rfl | simp)); (case brr3 => exact run_build_k _ k))
      | ((with_reducible refine step_store_run (t := 25) (x := .tmp 5) (y := .tmp 8) (p := ?spr3h) (v := ?svr3h) (w' := ?swr3h) ?sgr3h ?sor3h ?sxr3h ?syr3h ?srr3h ?shr3h); (case sgr3h => rfl); (case sor3h => rfl); (case sxr3h => rfl); (case syr3h => rfl); (case srr3h => exact HHH.out)))
    rw [← HS.out]
    clear HHH HS
    have HTX := Lib.hid HP.out.text
    obtain ⟨tb, htb⟩ : ∃ t, t = oct.tx (rdT st).1 := ⟨_, rfl⟩
    rw [← htb] at HTX
    have HTB := Lib.hid htb
    clear htb
    go_wp2_with (first
      | (go_at_call 19; (with_reducible refine (HK.out _).mono ?_); rintro e w3 ⟨rfl, rfl⟩)
      | (go_at_call 50; (with_reducible refine HTX.out.mono ?_); rintro e w4 ⟨rfl, hr4, ht4⟩; have hp4 := HP.out.read HF.out HN.out ht4 hr4; have ct := (EnBlk.of hp4.en hp4.cm).topic; have hf := hp4.en.frozen 1; have hp5 := hp4.putt HN.out (rdT st).1; rw [← HTB.out] at hp5; have HP5 := Lib.hid hp5; have HLD := Lib.hid (run_load_en hp5.en hp5.cm); have HST := Lib.hid hp5.last; clear hp4 hp5 hr4 ht4)
      | ((with_reducible refine step_load (t := 25) (x := .tmp 5) (p := ?lpr3l) (v := ?lvr3l) ?lgr3l ?lor3l ?lxr3l ?lrr3l ?lhr3l); (case lgr3l => rfl); (case lor3l => rfl); (case lxr3l => rfl); (case lrr3l => exact HLD.out))
      | ((with_reducible refine step_store_run (t := 25) (x := .tmp 4) (y := .tmp 31) (p := ?spr3s) (v := ?svr3s) (w' := ?swr3s) ?sgr3s ?sor3s ?sxr3s ?syr3s ?srr3s ?shr3s); (case sgr3s => rfl); (case sor3s => rfl); (case sxr3s => rfl); (case syr3s => rfl); (case srr3s => exact HST.out)))
    refine bodyPost_ret (results_en1 rfl _ _ R 25 _ rfl (setRow_heap _ _ _ _ _ _ HP5.out.res) HP5.out.cm) rfl (HP5.out.out HN.out HE.out _ rfl)
  · have HK : Hid (∀ u, Calls Tryd.prog 19 #[.int .i64 k] u fun x w' => x = .returned (.int .i64 5) ∧ u = w') := Lib.hid (by
      have e1 : hasK k = 5 := by unfold hasK; rw [if_neg (by omega), if_neg (by omega), if_neg (by omega), if_pos a]
      rw [e1] at hhas
      exact hhas)
    have HE : Hid (readE k st = (⟨k, (rdT st).1, (rdB (rdT st).2).1, zid⟩, (rdB (rdT st).2).2)) := Lib.hid (by unfold readE; rw [if_neg (by omega), if_neg (by omega), if_neg (by omega), if_pos a])
    clear a hhas
    go_enter Tryd.func35, Tryd.ntmps35
    go_upto_region 1 with fail
    refine wp_at HW.out.symm ?_
    rw [← HR.out]
    clear HW
    go_upto_region 2 with (first
      | ((with_reducible refine step_build (t := 25) (parts := #[(0, .tmp 7)]) (ps := #[(0, .int .i64 k)]) (v := ?bvr4) ?bgr4 ?bor4 ?bxr4 ?brr4 ?bhr4); (case bgr4 => rfl); (case bor4 => rfl); (case bxr4 => (first | rfl | simp)); (case brr4 => exact run_build_k _ k))
      | ((with_reducible refine step_store_run (t := 25) (x := .tmp 5) (y := .tmp 8) (p := ?spr4h) (v := ?svr4h) (w' := ?swr4h) ?sgr4h ?sor4h ?sxr4h ?syr4h ?srr4h ?shr4h); (case sgr4h => rfl); (case sor4h => rfl); (case sxr4h => rfl); (case syr4h => rfl); (case srr4h => exact HHH.out)))
    rw [← HS.out]
    clear HHH HS
    have HTX := Lib.hid HP.out.text
    obtain ⟨tb, htb⟩ : ∃ t, t = oct.tx (rdT st).1 := ⟨_, rfl⟩
    rw [← htb] at HTX
    have HTB := Lib.hid htb
    clear htb
    obtain ⟨bb, hbb⟩ : ∃ t, t = oct.tx (rdB (rdT st).2).1 := ⟨_, rfl⟩
    have HBB := Lib.hid hbb
    clear hbb
    go_wp2_with (first
      | (go_at_call 19; (with_reducible refine (HK.out _).mono ?_); rintro e w3 ⟨rfl, rfl⟩)
      | (go_at_call 50; (with_reducible refine HTX.out.mono ?_); rintro e w4 ⟨rfl, hr4, ht4⟩; have hp4 := HP.out.read HF.out HN.out ht4 hr4; have ct := (EnBlk.of hp4.en hp4.cm).topic; have hf := hp4.en.frozen 1; have hp5 := hp4.putt HN.out (rdT st).1; rw [← HTB.out] at hp5; have HP5 := Lib.hid hp5; have HLF := Lib.hid (lleft_s g _ _ hp5.rdr); clear hp4 hp5 hr4 ht4)
      | (go_at_call 53; (with_reducible refine HLF.out.mono ?_); rintro e w6 ⟨⟨n, rfl, hnb⟩, rfl⟩; have HBD := Lib.hid (HP5.out.body n hnb); clear hnb)
      | (go_at_call 52; (with_reducible refine HBD.out.mono ?_); rintro e w7 ⟨rfl, hr7, ht7⟩; have hp7 := HP5.out.read HF.out HN.out ht7 hr7; have cb := (EnBlk.of hp7.en hp7.cm).body; have hfb := hp7.en.frozen 2; have hp8 := hp7.putb HN.out (rdB (rdT st).2).1; rw [← HBB.out] at hp8 ⊢; have HP8 := Lib.hid hp8; have HLD := Lib.hid (run_load_en hp8.en hp8.cm); have HST := Lib.hid hp8.last; clear hp7 hp8 hr7 ht7)
      | ((with_reducible refine step_load (t := 25) (x := .tmp 5) (p := ?lpr4l) (v := ?lvr4l) ?lgr4l ?lor4l ?lxr4l ?lrr4l ?lhr4l); (case lgr4l => rfl); (case lor4l => rfl); (case lxr4l => rfl); (case lrr4l => exact HLD.out))
      | ((with_reducible refine step_store_run (t := 25) (x := .tmp 4) (y := .tmp 31) (p := ?spr4s) (v := ?svr4s) (w' := ?swr4s) ?sgr4s ?sor4s ?sxr4s ?syr4s ?srr4s ?shr4s); (case sgr4s => rfl); (case sor4s => rfl); (case sxr4s => rfl); (case syr4s => rfl); (case srr4s => exact HST.out)))
    refine bodyPost_ret (results_en1 rfl _ _ R 25 _ rfl (setRow_heap _ _ _ _ _ _ HP8.out.res) HP8.out.cm) rfl (HP8.out.out HN.out HE.out _ rfl)
  · have HK : Hid (∀ u, Calls Tryd.prog 19 #[.int .i64 k] u fun x w' => x = .returned (.int .i64 0) ∧ u = w') := Lib.hid (by
      have e1 : hasK k = 0 := by unfold hasK; rw [if_neg (by omega), if_neg (by omega), if_neg (by omega), if_neg (by omega)]
      rw [e1] at hhas
      exact hhas)
    have HE : Hid (readE k st = (⟨k, [], [], zid⟩, st)) := Lib.hid (by unfold readE; rw [if_neg (by omega), if_neg (by omega), if_neg (by omega), if_neg (by omega)])
    clear a hhas
    go_enter Tryd.func35, Tryd.ntmps35
    go_upto_region 1 with fail
    refine wp_at HW.out.symm ?_
    rw [← HR.out]
    clear HW
    go_upto_region 2 with (first
      | ((with_reducible refine step_build (t := 25) (parts := #[(0, .tmp 7)]) (ps := #[(0, .int .i64 k)]) (v := ?bvr5) ?bgr5 ?bor5 ?bxr5 ?brr5 ?bhr5); (case bgr5 => rfl); (case bor5 => rfl); (case bxr5 => (first | rfl | simp)); (case brr5 => exact run_build_k _ k))
      | ((with_reducible refine step_store_run (t := 25) (x := .tmp 5) (y := .tmp 8) (p := ?spr5h) (v := ?svr5h) (w' := ?swr5h) ?sgr5h ?sor5h ?sxr5h ?syr5h ?srr5h ?shr5h); (case sgr5h => rfl); (case sor5h => rfl); (case sxr5h => rfl); (case syr5h => rfl); (case srr5h => exact HHH.out)))
    rw [← HS.out]
    clear HHH HS
    have HLD := Lib.hid (run_load_en HP.out.en HP.out.cm)
    have HST := Lib.hid HP.out.last
    go_wp2_with (first
      | (go_at_call 19; (with_reducible refine (HK.out _).mono ?_); rintro e w3 ⟨rfl, rfl⟩)
      | ((with_reducible refine step_load (t := 25) (x := .tmp 5) (p := ?lpr5l) (v := ?lvr5l) ?lgr5l ?lor5l ?lxr5l ?lrr5l ?lhr5l); (case lgr5l => rfl); (case lor5l => rfl); (case lxr5l => rfl); (case lrr5l => exact HLD.out))
      | ((with_reducible refine step_store_run (t := 25) (x := .tmp 4) (y := .tmp 31) (p := ?spr5s) (v := ?svr5s) (w' := ?swr5s) ?sgr5s ?sor5s ?sxr5s ?syr5s ?srr5s ?shr5s); (case sgr5s => rfl); (case sor5s => rfl); (case sxr5s => rfl); (case syr5s => rfl); (case srr5s => exact HST.out)))
    refine bodyPost_ret (results_en1 rfl _ _ R 25 _ rfl (setRow_heap _ _ _ _ _ _ HP.out.res) HP.out.cm) rfl (HP.out.out HN.out HE.out _ rfl)
end Go.Proofs.YtbhkegdohiekfaaDoor.ent
