/-
  petrelref09.Of.
-/
import Derived.Test.YtbfjljbllfjicaaMssm
import Derived.Test.YtbfjljbllfjicaaRef1x
namespace Go.Proofs.Ytbfjljbllfjicaa.msg
open Go.RowKit Go.Proofs.Ytbfjljbllfjicaa.mem Go.Proofs.Ytbfjljbllfjicaa.sha Go.Proofs.Ytbfjljbllfjicaa.ids
open Go.Proofs.Ytbfjljbllfjicaa.opn (b1 b2 b4 num txt idl byte rd rdN rdT rdI rdS rdL St Reads Stays endE zid mkId)

theorem mg_size (m : Mg) (v : Value) : (#[.int .i64 m.k, v, .string (oct.tx m.body)] : Array Value).size = 3 := rfl
theorem agg_mg (w : World) : (isAgg 24).run Try.prog w = .ok true w := by
  unfold isAgg
  rw [Sem.run_bind, run_underlying Try.underlying24 w]
  rfl
theorem run_load_mg {w : World} {S : Nat} {t : TypeId} {m : Mg} {v : Value} (hb : Blk w S t #[.int .i64 m.k, v, .string (oct.tx m.body)]) : (Instr.loadAt 24 (.pointer (some ⟨S, 0, none⟩))).run Try.prog w = .ok (mgv m v) w := by
  have hl : (loadCells ⟨S, 0, none⟩ 3).run Try.prog w = .ok #[.int .i64 m.k, v, .string (oct.tx m.body)] w :=
    run_loadCells_list (P := Try.prog) w ⟨S, 0, none⟩ (mgc m v) (fun j u hu => by
      rw [Addr.add_lit, Nat.zero_add, hb.cell]
      show (mgc m v).toArray[j]? = some u
      rw [List.getElem?_toArray]
      exact hu)
  have hi := info_mg
  cases hq : Try.prog.info? 24 with
  | none => simp [hq] at hi
  | some i =>
    have hs : i.size = 3 := by simpa [hq] using hi
    simp [Instr.loadAt, Instr.sureAddr, loadVar, Sem.run_bind, agg_mg, sizeOf, typeInfo, hq, hs, hl]
theorem run_store_mg {w : World} {S : Nat} {t : TypeId} {cur : Array Value} (hb : Blk w S t cur) (hc : cur.size = 3) (m : Mg) (v : Value) (hv : v.oneCell' = true) :
    (Instr.storeAt 24 (.pointer (some ⟨S, 0, none⟩)) (mgv m v)).run Try.prog w = .ok () (w.setRow S #[.int .i64 m.k, v, .string (oct.tx m.body)]) := by
  have := run_store_cells hb 24 (mgc m v) (off := 0) (by rw [info_mg]; rfl) (by
    intro u hu
    simp only [mgc, List.mem_cons, List.not_mem_nil, or_false] at hu
    rcases hu with rfl | rfl | rfl
    · rfl
    · exact hv
    · rfl) (by rw [hc]; exact Nat.le_refl _)
  rw [splice_all _ _ (by rw [hc]; rfl)] at this
  exact this
theorem results_mg {fn : Func} {p q : Tmp} (h : fn.results = #[.cell p 24, .tmp q]) (tmps : Array Value) (w : World) (g : Nat) (t : TypeId) (m : Mg) (v : Value)
    (hp : tmps.getD p undef = .pointer (some ⟨g, 0, none⟩)) (hg : Blk w g t #[.int .i64 m.k, v, .string (oct.tx m.body)]) :
    (results fn tmps).run Try.prog w = .ok (.tuple #[mgv m v, tmps.getD q undef]) w := by
  have hp' : tmps[p]?.getD undef = .pointer (some ⟨g, 0, none⟩) := by simpa using hp
  have hl := run_loadVar_row w g t 24 #[.int .i64 m.k, v, .string (oct.tx m.body)] (0, 0) _ hg Try.underlying24 rfl (by rw [info_mg]; rfl)
  simp [results, h, hp', asAddr, hl]
theorem mgm_ids {w : World} {S : Nat} {t : TypeId} {m : Mg} {v : Value} (hb : Blk w S t #[.int .i64 m.k, v, .string (oct.tx m.body)]) (L : List (List UInt8)) (u : Value) : Blk (w.setCell ⟨S, 1, none⟩ u) S t #[.int .i64 ({ m with ids := L } : Mg).k, u, .string (oct.tx ({ m with ids := L } : Mg).body)] := hb.set_ 1 u
theorem mgm_body {w : World} {S : Nat} {t : TypeId} {m : Mg} {v : Value} (hb : Blk w S t #[.int .i64 m.k, v, .string (oct.tx m.body)]) (l : List UInt8) : Blk (w.setCell ⟨S, 2, none⟩ (.string (oct.tx l))) S t #[.int .i64 ({ m with body := l } : Mg).k, v, .string (oct.tx ({ m with body := l } : Mg).body)] := hb.set_ 2 _
theorem run_store_ids {w : World} {S : Nat} {t : TypeId} {m : Mg} {u : Value} (hb : Blk w S t #[.int .i64 m.k, u, .string (oct.tx m.body)]) (ad : Option Addr) (n c : Nat) :
    (Instr.storeAt 22 (.pointer (some ⟨S, 1, none⟩)) (.slice ad n c)).run Try.prog w = .ok () (w.setCell ⟨S, 1, none⟩ (.slice ad n c)) := by
  have c36 := (MgBlk.of hb).ids
  have hf := hb.frozen 1
  go_simp
theorem push_s {S : Nat} {k : Int} {b : List UInt8} {v : Value} {L : List (List UInt8)} {x : List UInt8} (w : World) (hS : Blk w S 24 #[.int .i64 k, v, .string (oct.tx b)]) (hv : OwnI w (S < ·) v L) (hx : x.length = 32) (hL : L.length ≤ 1000) (ty : TypeId) :
    ∃ v' w3, (Builtin.append_ #[22, 22] ty #[v, .slice (some ⟨w.heap.size, 0, none⟩) 1 1]).run Try.prog (w.alloc (.cells (bv x).toArray 58)) = .ok v' w3 ∧
      (Instr.storeAt 22 (.pointer (some ⟨S, 1, none⟩)) v').run Try.prog w3 = .ok () (w3.setCell ⟨S, 1, none⟩ v') ∧
      Blk (w3.setCell ⟨S, 1, none⟩ v') S 24 #[.int .i64 k, v', .string (oct.tx b)] ∧ OwnI (w3.setCell ⟨S, 1, none⟩ v') (S < ·) v' (L ++ [x]) ∧ Turn (S ≤ ·) w (w3.setCell ⟨S, 1, none⟩ v') := by
  have hlt := hS.lt
  obtain ⟨v', w3, hrun, ho, ht⟩ := run_append_one hv hx (by omega) (fun k hk => Nat.lt_of_lt_of_le hlt hk) ty
  have hS3 : Blk w3 S 24 #[.int .i64 k, v, .string (oct.tx b)] := hS.turn ht fun h => by
    rcases h with h | h
    · have h2 : S < S := hv.2.2 S h
      omega
    · omega
  obtain ⟨ad, cap, hvf, -, -⟩ := ho.form
  refine ⟨v', w3, hrun, ?_, hS3.set_ 1 v', ?_, ?_⟩
  · rw [hvf]; exact run_store_ids (m := ⟨k, L, b⟩) hS3 ad _ cap
  · exact ho.turn ((Turn.refl (· = S) w3).setCell rfl _) fun k hk h => by
      have h2 : S < k := ho.2.2 k hk
      omega
  · refine (ht.mono fun k hk => ?_).trans ((Turn.refl (S ≤ ·) w3).setCell (Nat.le_refl S) _)
    rcases hk with hk | hk
    · exact Nat.le_of_lt (hv.2.2 k hk)
    · omega
theorem rdL_len : ∀ (n : Nat) (st : St), (rdL n st).1.length = n
  | 0, _ => rfl
  | n + 1, st => by show (_ :: _).length = _; rw [List.length_cons, rdL_len n]
theorem rdL_snoc : ∀ (n : Nat) (st : St), rdL (n + 1) st = ((rdL n st).1 ++ [(rdI (rdL n st).2).1], (rdI (rdL n st).2).2)
  | 0, _ => rfl
  | n + 1, st => by
    have := rdL_snoc n (rdI st).2
    show ((rdI st).1 :: (rdL (n + 1) (rdI st).2).1, (rdL (n + 1) (rdI st).2).2) = _
    rw [this]
    rfl
theorem sr_text {x : ByteArray × Int} {st : St} (h : opn.Sr x st) : (oct.xText x 65535).1 = oct.tx (rdT2 st).1 ∧ opn.Sr (oct.xText x 65535).2 (rdT2 st).2 := by
  have hn := opn.sr_num h 2 (.inr (.inl rfl))
  have hn1 : (oct.xNum x 2).1 = (rdN 2 st).1 := hn.1
  have hn2 : opn.Sr (oct.xNum x 2).2 (rdN 2 st).2 := hn.2
  have hlt := opn.rdN2_lt st
  have h0 := opn.rdN_nonneg 2 st
  unfold oct.xText rdT2
  by_cases he : (oct.xNum x 2).2.2 = 0
  · rw [if_neg (fun hh => hh he), if_neg (by rw [hn1]; omega)]
    have := opn.sr_take hn2 (rdN 2 st).1.toNat
    rw [Int.toNat_of_nonneg h0, ← hn1] at this
    rw [← hn1]
    exact this
  · rw [if_pos he]
    have e : (rdN 2 st).2.2 ≠ 0 := by rw [hn2.1]; exact he
    have : rd (rdN 2 st).1.toNat (rdN 2 st).2 = ([], ([], (rdN 2 st).2.2)) := by unfold rd; rw [if_pos e]
    rw [this]
    exact ⟨rfl, hn2.1, fun hh => absurd hh he⟩
theorem text_s (g : Nat) (st : St) (w : World) (h : opn.RdrS w g st) :
    Calls Try.prog 39 #[.pointer (some ⟨g, 0, none⟩), .int .i64 65535] w fun e w' => e = .returned (.string (oct.tx (rdT2 st).1)) ∧ opn.RdrS w' g (rdT2 st).2 ∧ Turn (· = g) w w' := by
  obtain ⟨s, e, hx, hs⟩ := h
  refine (oct.xtext_any (· = g) g s e 65535 w hx rfl).mono ?_
  rintro e2 w2 ⟨rfl, h2, ht⟩
  have := sr_text hs
  exact ⟨by rw [this.1], ⟨_, _, h2, this.2⟩, ht⟩
theorem rdT2_len (st : St) : (rdT2 st).1.length ≤ 100000 := by
  show (rd (rdN 2 st).1.toNat (rdN 2 st).2).1.length ≤ 100000
  have h1 := opn.rdN2_lt st
  have h2 := opn.rdN_nonneg 2 st
  rcases opn.rd_len (rdN 2 st).1.toNat (rdN 2 st).2 with h | h <;> omega
/-- what stands while a message is read -/
def OfS (w : World) (R S : Nat) (o : Mg) (s : St) (wr : World) (v : Value) : Prop := Blk wr S 24 #[.int .i64 o.k, v, .string (oct.tx o.body)] ∧ OwnI wr (S < ·) v o.ids ∧ opn.RdrS wr (R + 1) s ∧ Blk wr R 24 #[.int .i64 zmg.k, nv, .string (oct.tx zmg.body)] ∧ Below w.heap.size w wr
theorem OfS.rdr {w : World} {R S : Nat} {o : Mg} {s : St} {wr : World} {v : Value} (h : OfS w R S o s wr v) : opn.RdrS wr (R + 1) s := h.2.2.1
theorem OfS.read {w : World} {R S : Nat} {o : Mg} {s s2 : St} {wr w2 : World} {v : Value} (h : OfS w R S o s wr v) (hRS : R + 1 < S) (hw : w.heap.size ≤ R) {F : Nat → Prop} (ht : Turn F wr w2) (hF : ∀ b, F b → b = R + 1 ∨ wr.heap.size ≤ b) (hr : opn.RdrS w2 (R + 1) s2) : OfS w R S o s2 w2 v := by
  obtain ⟨h1, h2, h3, h4, h5⟩ := h
  have hS := h1.lt
  refine ⟨h1.turn ht fun hb => by rcases hF _ hb with e | e <;> omega, h2.turn ht fun k hk hb => ?_, hr, h4.turn ht fun hb => by rcases hF _ hb with e | e <;> omega, h5.trans (ht.below fun b hb => by rcases hF _ hb with e | e <;> have := h5.size <;> omega)⟩
  have a : S < k := h2.2.2 k hk
  have b := h2.lt hk
  rcases hF _ hb with e | e <;> omega
theorem OfS.put {w : World} {R S : Nat} {o o' : Mg} {s : St} {w2 w3 : World} {v : Value} (h : OfS w R S o s w2 v) (hRS : R + 1 < S) (hw : w.heap.size ≤ R) (ht : Turn (· = S) w2 w3) (hS : Blk w3 S 24 #[.int .i64 o'.k, v, .string (oct.tx o'.body)]) (hp : o'.ids = o.ids) : OfS w R S o' s w3 v := by
  obtain ⟨h1, h2, h3, h4, h5⟩ := h
  refine ⟨hS, ?_, h3.turn ht (by omega), h4.turn ht (by omega), h5.trans (ht.below fun b hb => by omega)⟩
  rw [hp]
  exact h2.turn ht fun k hk e => by
    have a : S < k := h2.2.2 k hk
    omega

set_option maxHeartbeats 4000000 in
set_option maxRecDepth 100000 in
theorem of_any (s : ByteArray) (w : World) (hs : s.size ≤ 100000) :
    Calls Try.prog 15 #[.string s] w fun e w' => ∃ v, e = .returned (.tuple #[mgv (ofM s.data.toList).1 v, .int .i64 (ofM s.data.toList).2]) ∧ RdV w' v (ofM s.data.toList).1.ids ∧ Below w.heap.size w w' := by
  obtain ⟨R, hR⟩ : ∃ S, S = w.heap.size := ⟨_, rfl⟩
  have HR := Lib.hid hR
  have hsl : s.size = s.data.toList.length := by rw [Array.length_toList]; rfl
  obtain ⟨l, hl⟩ : ∃ l, l = s.data.toList := ⟨_, rfl⟩
  rw [← hl] at hsl ⊢
  by_cases hbig : 1024 < s.size
  · have i1 : (1024 : Int) < (s.size : Int) := by omega
    have HE : Hid (ofM l = (zmg, 3)) := Lib.hid (by unfold ofM; rw [if_pos (by omega)])
    have hX := Blk.new w 24 #[.int .i64 zmg.k, nv, .string (oct.tx zmg.body)]
    have hB : Below w.heap.size w (w.alloc (.cells #[.int .i64 zmg.k, nv, .string (oct.tx zmg.body)] 24)) := (Below.refl _ _).alloc (Nat.le_refl _) _
    have HX := Lib.hid hX
    have HB := Lib.hid hB
    clear hbig hs hsl hl hR hX hB
    go_enter Try.func15, Try.ntmps15
    go_wp2_with fail
    refine bodyPost_ret (results_mg rfl _ _ w.heap.size _ zmg nv rfl HX.out) rfl ⟨nv, by rw [HE.out]; rfl, by rw [HE.out]; exact nv_rd _, HB.out⟩
  have i1 : (s.size : Int) ≤ 1024 := by omega
  obtain ⟨w1, hw1⟩ : ∃ u, u = (w.alloc (.cells #[.int .i64 zmg.k, nv, .string (oct.tx zmg.body)] 24)).alloc (.cells #[.string s, .int .i64 0] 65) := ⟨_, rfl⟩
  have hX : Blk w1 R 24 #[.int .i64 zmg.k, nv, .string (oct.tx zmg.body)] := by rw [hw1, hR]; exact (Blk.new w _ _).alloc _
  have hG : opn.RdrS w1 (R + 1) (l, 0) := ⟨s, 0, by rw [hw1, hR]; exact Blk.at_ (by simp) _ _, rfl, fun _ => by rw [hl]; exact (oct.tx_eta s).symm⟩
  have hB : Below w.heap.size w w1 := by rw [hw1]; exact ((Below.refl _ _).alloc (Nat.le_refl _) _).alloc (by simp) _
  obtain ⟨st, hst⟩ : ∃ st, st = (rdN 1 (l, 0)).2 := ⟨_, rfl⟩
  obtain ⟨k, hk⟩ : ∃ k, k = (rdN 1 (l, 0)).1 := ⟨_, rfl⟩
  have hnum := opn.num1_s (R + 1) (l, 0) w1 hG
  rw [← hst, ← hk] at hnum
  have HOF : Hid (ofM l = if st.2 ≠ 0 then (zmg, st.2) else if kindM k = 0 then (zmg, 10) else if endE (rdM k st).2 ≠ 0 then (zmg, endE (rdM k st).2) else if checkM (rdM k st).1 ≠ 0 then (zmg, checkM (rdM k st).1) else ((rdM k st).1, 0)) := Lib.hid (by rw [hst, hk]; unfold ofM; rw [if_neg (by omega)])
  have HX := Lib.hid hX
  have HB := Lib.hid hB
  have HW := Lib.hid hw1
  have HNUM := Lib.hid hnum
  have HWR : Hid (w.heap.size ≤ R) := Lib.hid (by rw [HR.out]; exact Nat.le_refl _)
  clear hX hG hB hw1 hR hl hs hsl hbig hst hk hnum
  go_enter Try.func15, Try.ntmps15
  go_upto_region 4 with fail
  refine wp_at HW.out.symm ?_
  rw [← HR.out]
  clear HW
  go_cut [5] from 16 to 18 (fun p5 wx => ∃ S, p5 = .pointer (some ⟨S, 0, none⟩) ∧ R + 1 < S ∧ OfS w R S ⟨k, [], []⟩ st wx nv)
  case first =>
    go_wp2_with (go_at_call 37; (with_reducible refine HNUM.out.mono ?_); rintro e w2 ⟨rfl, hr2, ht2⟩)
    go_meet
    have hlt : R + 1 < w2.heap.size := hr2.lt
    have hX2 := HX.out.turn ht2 (by omega)
    have hT : Turn (w2.heap.size ≤ ·) w2 (w2.alloc (.cells #[.int .i64 k, .slice none 0 0, .string ⟨#[]⟩] 24)) := (Turn.refl _ w2).alloc (fun _ h => h) _
    have hb1 : Below w.heap.size w1 w2 := ht2.below fun b hb => by have := HWR.out; omega
    have hb2 := hT.below (B := w.heap.size) fun b hb => by have := HWR.out; omega
    exact ⟨w2.heap.size, rfl, hlt, Blk.new w2 _ _, OwnI.nil _ _, hr2.turn hT (by omega), hX2.turn hT (by omega), (HB.out.trans hb1).trans hb2⟩
  case rest =>
    obtain ⟨S, rfl, hRS, hof⟩ := hcut
    have hE := hof.2.2.1.err
    have c0 := (MgBlk.of hof.1).k
    have HO := Lib.hid hof
    have hcl := hof.2.2.2.1
    have HX := Lib.hid hcl
    have HKA := Lib.hid (fun u => kind_any k u)
    clear HB HNUM hcl
    by_cases h0 : st.2 = 0
    case neg =>
      have hE1 : (st.2 != 0) = true := bne_iff_ne.2 h0
      have HE : Hid (ofM l = (zmg, st.2)) := Lib.hid (by rw [HOF.out, if_pos h0])
      obtain ⟨er, her⟩ : ∃ er, er = st.2 := ⟨_, rfl⟩
      rw [← her] at hE hE1 HE
      clear h0 HOF hof c0
      go_upto_region 6 with fail
      have hrun := run_store_mg (w := wc.drew) HX.out rfl zmg nv rfl
      have hst2 := setRow_heap wc.drew R _ #[.int .i64 zmg.k, nv, .string (oct.tx zmg.body)] _ _ HX.out
      have HRUN := Lib.hid hrun
      have hE2 := (HO.out.2.2.1.turn (((Turn.refl (· = R) wc).drew).trans (turn_row wc.drew R #[.int .i64 zmg.k, nv, .string (oct.tx zmg.body)])) (by omega)).err
      rw [← her] at hE2
      clear hrun her
      refine wp_region_any (by kernel_rfl) ?_
      refine' wpAny_take (i := 0) ?hizm18 (by kernel_rfl) (by kernel_rfl) (by kernel_rfl) ?hqzm18 (Or.inl ⟨?hwzm18, ?hyzm18⟩) ?hrzm18
      case hizm18 => (simp only [List.getElem?_toArray, List.getElem?_cons_succ, List.getElem?_cons_zero]; rfl)
      case hqzm18 => exact fun _ _ _ h => h
      case hwzm18 => rfl
      case hyzm18 => (intro w0; go_simp; try with_reducible rfl)
      (try simp only [Act.put, List.setIfInBounds_toArray, List.set_cons_zero, List.set_cons_succ])
      refine' wpAny_take (i := 1) ?hizm19 (by kernel_rfl) (by kernel_rfl) (by kernel_rfl) ?hqzm19 (Or.inl ⟨?hwzm19, ?hyzm19⟩) ?hrzm19
      case hizm19 => (simp only [List.getElem?_toArray, List.getElem?_cons_succ, List.getElem?_cons_zero]; rfl)
      case hqzm19 => exact fun _ _ _ h => h
      case hwzm19 => rfl
      case hyzm19 => (intro w0; go_simp; try with_reducible rfl)
      (try simp only [Act.put, List.setIfInBounds_toArray, List.set_cons_zero, List.set_cons_succ])
      refine' wpAny_take (i := 2) ?hizm20 (by kernel_rfl) (by kernel_rfl) (by kernel_rfl) ?hqzm20 (Or.inl ⟨?hwzm20, ?hyzm20⟩) ?hrzm20
      case hizm20 => (simp only [List.getElem?_toArray, List.getElem?_cons_succ, List.getElem?_cons_zero]; rfl)
      case hqzm20 => exact fun _ _ _ h => h
      case hwzm20 => rfl
      case hyzm20 => (intro w0; go_simp; try with_reducible rfl)
      (try simp only [Act.put, List.setIfInBounds_toArray, List.set_cons_zero, List.set_cons_succ])
      refine' wpAny_take (i := 3) ?hizm21 (by kernel_rfl) (by kernel_rfl) (by kernel_rfl) ?hqzm21 (Or.inl ⟨?hwzm21, ?hyzm21⟩) ?hrzm21
      case hizm21 => (simp only [List.getElem?_toArray, List.getElem?_cons_succ, List.getElem?_cons_zero]; rfl)
      case hqzm21 => exact fun _ _ _ h => h
      case hwzm21 => rfl
      case hyzm21 => (intro w0; go_simp; try with_reducible rfl)
      (try simp only [Act.put, List.setIfInBounds_toArray, List.set_cons_zero, List.set_cons_succ])
      refine wpAny_ready (rs := [4, 5]) (by kernel_rfl) (by simp) ?_
      refine' AllReady.cons ?hazm26 (fun K hK => ?hczm26) (AllReady.cons ?hbzm26 (fun K hK => ?hdzm26) AllReady.nil)
      case hazm26 => (simp only [List.getElem?_toArray, List.getElem?_cons_succ, List.getElem?_cons_zero]; rfl)
      case hbzm26 => (simp only [List.getElem?_toArray, List.getElem?_cons_succ, List.getElem?_cons_zero]; rfl)
      case hczm26 =>
        go_simp
        refine hK _ _ ?_
        clear hK K
        (try simp only [Act.put, List.setIfInBounds_toArray, List.set_cons_zero, List.set_cons_succ])
        refine wpAny_ready (rs := [5]) (by kernel_rfl) (by simp) ?_
        refine' AllReady.cons ?hizm23 (fun K hK => ?hrzm23) AllReady.nil
        case hizm23 => (simp only [List.getElem?_toArray, List.getElem?_cons_succ, List.getElem?_cons_zero]; rfl)
        refine want_store_run rfl rfl rfl rfl HRUN.out (hK _ _ ?_)
        clear hK K
        (try simp only [Act.put, List.setIfInBounds_toArray, List.set_cons_zero, List.set_cons_succ])
        refine' wpAny_take (i := 6) ?hizm22 (by kernel_rfl) (by kernel_rfl) (by kernel_rfl) ?hqzm22 (Or.inl ⟨?hwzm22, ?hyzm22⟩) ?hrzm22
        case hizm22 => (simp only [List.getElem?_toArray, List.getElem?_cons_succ, List.getElem?_cons_zero]; rfl)
        case hqzm22 => exact fun _ _ _ h => h
        case hwzm22 => rfl
        case hyzm22 => (intro w0; go_simp; try with_reducible rfl)
        (try simp only [Act.put, List.setIfInBounds_toArray, List.set_cons_zero, List.set_cons_succ])
        refine wpAny_done (by kernel_rfl) ?_ _
        go_wp2_with fail
        refine bodyPost_ret (results_mg rfl _ _ R _ zmg nv rfl hst2) rfl ⟨nv, by rw [HE.out]; rfl, by rw [HE.out]; exact nv_rd _, below_row' HO.out.2.2.2.2.drew HWR.out _⟩
      case hdzm26 =>
        refine want_store_run rfl rfl rfl rfl HRUN.out (hK _ _ ?_)
        clear hK K
        (try simp only [Act.put, List.setIfInBounds_toArray, List.set_cons_zero, List.set_cons_succ])
        refine wpAny_ready (rs := [4]) (by kernel_rfl) (by simp) ?_
        refine' AllReady.cons ?hizm25 (fun K hK => ?hrzm25) AllReady.nil
        case hizm25 => (simp only [List.getElem?_toArray, List.getElem?_cons_succ, List.getElem?_cons_zero]; rfl)
        go_simp
        refine hK _ _ ?_
        clear hK K
        (try simp only [Act.put, List.setIfInBounds_toArray, List.set_cons_zero, List.set_cons_succ])
        refine' wpAny_take (i := 6) ?hizm24 (by kernel_rfl) (by kernel_rfl) (by kernel_rfl) ?hqzm24 (Or.inl ⟨?hwzm24, ?hyzm24⟩) ?hrzm24
        case hizm24 => (simp only [List.getElem?_toArray, List.getElem?_cons_succ, List.getElem?_cons_zero]; rfl)
        case hqzm24 => exact fun _ _ _ h => h
        case hwzm24 => rfl
        case hyzm24 => (intro w0; go_simp; try with_reducible rfl)
        (try simp only [Act.put, List.setIfInBounds_toArray, List.set_cons_zero, List.set_cons_succ])
        refine wpAny_done (by kernel_rfl) ?_ _
        go_wp2_with fail
        refine bodyPost_ret (results_mg rfl _ _ R _ zmg nv rfl hst2) rfl ⟨nv, by rw [HE.out]; rfl, by rw [HE.out]; exact nv_rd _, below_row' HO.out.2.2.2.2.drew HWR.out _⟩
    case pos =>
      rw [h0] at hE
      have HOF : Hid (_ = _) := Lib.hid HOF.out
      rw [if_neg (fun hh => hh h0)] at HOF
      clear h0 hof
      have hkc := kindM_cases k
      obtain ⟨kk, hkk⟩ : ∃ x, x = kindM k := ⟨_, rfl⟩
      have hrdM : rdM k st = if kk = 1 then (⟨k, (rdS st).1, []⟩, (rdS st).2) else (⟨k, [], (rdT2 st).1⟩, (rdT2 st).2) := by rw [hkk]; rfl
      rw [← hkk] at HKA HOF hkc
      clear hkk
      rcases hkc with ⟨rfl, -⟩ | ⟨rfl, -⟩ | ⟨rfl, -⟩
      · -- ids
        rw [if_neg (show ¬ ((1 : Int) = 0) by decide)] at HOF
        rw [if_pos rfl] at hrdM
        rw [hrdM] at HOF
        obtain ⟨s2, hs2⟩ : ∃ sx, sx = (rdN 1 st).2 := ⟨_, rfl⟩
        obtain ⟨m, hm⟩ : ∃ k, k = (rdN 1 st).1 := ⟨_, rfl⟩
        have hrS : rdS st = rdL m.toNat s2 := by rw [hm, hs2]; rfl
        rw [hrS] at HOF
        have HN1 := opn.num1_s (R + 1) st wc HO.out.rdr
        rw [← hs2, ← hm] at HN1
        have HN1 := Lib.hid HN1
        have m0 : 0 ≤ m := by rw [hm]; exact opn.rdN_nonneg _ _
        have m1 : m < 256 := by rw [hm]; exact opn.rdN1_lt _
        clear hrS hrdM hs2 hm
        go_wp2_with (first
          | (go_at_call 25; (with_reducible refine (HKA.out _).mono ?_); rintro e w4 ⟨rfl, rfl⟩)
          | (go_at_call 37; (with_reducible refine HN1.out.mono ?_); rintro e w2 ⟨rfl, hr2, ht2⟩; have h2 := HO.out.read hRS HWR.out ht2 (fun b hb => .inl hb) hr2; have HO2 := Lib.hid h2; clear h2 hr2 ht2))
        clear hE c0
        go_loopw [7] (fun kk wr => ∃ (i : Nat) (v : Value), (i : Int) ≤ m ∧ kk = .int .i64 (i : Int) ∧ OfS w R S ⟨k, (rdL i s2).1, []⟩ (rdL i s2).2 wr v) (fun kk _ => m.toNat - (intOf kk).toNat)
        case atStart => exact ⟨0, nv, m0, rfl, HO2.out⟩
        case round =>
          obtain ⟨i, v, hi, rfl, ho⟩ := hrel
          have i0 : (0 : Int) ≤ (i : Int) := Int.natCast_nonneg _
          by_cases hin : (i : Int) < m
          · go_upto_region 14 with fail
            have hin : ((i + 1 : Nat) : Int) ≤ m := by omega
            have hod : OfS w R S ⟨k, (rdL i s2).1, []⟩ (rdL i s2).2 wr.drew v := ho.read hRS HWR.out (Turn.drew (Turn.refl (fun _ => False) wr)) (fun b hb => hb.elim) (ho.2.2.1.turn (Turn.drew (Turn.refl (fun _ => False) wr)) (fun h => h))
            have c36 := (MgBlk.of hod.1).ids
            have HGD := Lib.hid hod.2.2.1
            have HOD := Lib.hid hod
            have HEQ : ∀ v' u, OfS w R S ⟨k, (rdL i s2).1 ++ [(rdI (rdL i s2).2).1], []⟩ (rdI (rdL i s2).2).2 u v' → OfS w R S ⟨k, (rdL (i + 1) s2).1, []⟩ (rdL (i + 1) s2).2 u v' := fun v' u h => by rw [rdL_snoc]; exact h
            have HEQ := Lib.hid HEQ
            clear ho hod hi
            refine wp_region_any (by kernel_rfl) ?_
            refine' wpAny_take (i := 0) ?hizm27 (by kernel_rfl) (by kernel_rfl) (by kernel_rfl) ?hqzm27 (Or.inl ⟨?hwzm27, ?hyzm27⟩) ?hrzm27
            case hizm27 => (simp only [List.getElem?_toArray, List.getElem?_cons_succ, List.getElem?_cons_zero]; rfl)
            case hqzm27 => exact fun _ _ _ h => h
            case hwzm27 => rfl
            case hyzm27 => (intro w0; go_simp; try with_reducible rfl)
            (try simp only [Act.put, List.setIfInBounds_toArray, List.set_cons_zero, List.set_cons_succ])
            refine' wpAny_take (i := 2) ?hizm28 (by kernel_rfl) (by kernel_rfl) (by kernel_rfl) ?hqzm28 (Or.inl ⟨?hwzm28, ?hyzm28⟩) ?hrzm28
            case hizm28 => (simp only [List.getElem?_toArray, List.getElem?_cons_succ, List.getElem?_cons_zero]; rfl)
            case hqzm28 => exact fun _ _ _ h => h
            case hwzm28 => rfl
            case hyzm28 => (intro w0; go_simp; try with_reducible rfl)
            (try simp only [Act.put, List.setIfInBounds_toArray, List.set_cons_zero, List.set_cons_succ])
            refine wpAny_ready (rs := [1, 3]) (by kernel_rfl) (by simp) ?_
            refine' AllReady.cons ?hazm43 (fun K hK => ?hczm43) (AllReady.cons ?hbzm43 (fun K hK => ?hdzm43) AllReady.nil)
            case hazm43 => (simp only [List.getElem?_toArray, List.getElem?_cons_succ, List.getElem?_cons_zero]; rfl)
            case hbzm43 => (simp only [List.getElem?_toArray, List.getElem?_cons_succ, List.getElem?_cons_zero]; rfl)
            case hczm43 =>
              go_simp
              refine hK _ _ ?_
              clear hK K
              (try simp only [Act.put, List.setIfInBounds_toArray, List.set_cons_zero, List.set_cons_succ])
              refine wpAny_ready (rs := [3]) (by kernel_rfl) (by simp) ?_
              refine' AllReady.cons ?hizm29 (fun K hK => ?hrzm29) AllReady.nil
              case hizm29 => (simp only [List.getElem?_toArray, List.getElem?_cons_succ, List.getElem?_cons_zero]; rfl)
              go_simp
              (refine (opn.id_s (fun b => b = R + 1 ∨ wr.drew.heap.size ≤ b) (R + 1) (rdL i s2).2 wr.drew HGD.out (.inl rfl) (fun b hb => .inr hb)).mono ?_; rintro e w3 ⟨rfl, hr3, ht3⟩)
              have h3 := HOD.out.read hRS HWR.out ht3 (fun b hb => hb) hr3
              have c36b := (MgBlk.of h3.1).ids
              refine hK _ _ ?_
              clear hK K
              (try simp only [Act.put, List.setIfInBounds_toArray, List.set_cons_zero, List.set_cons_succ])
              refine wpAny_ready (rs := [4]) (by kernel_rfl) (by simp) ?_
              refine' AllReady.cons ?hizm30 (fun K hK => ?hrzm30) AllReady.nil
              case hizm30 => (simp only [List.getElem?_toArray, List.getElem?_cons_succ, List.getElem?_cons_zero]; rfl)
              refine want_build1 (y := (rdI (rdL i s2).2).1) rfl rfl rfl (opn.rdI_len _) (hK _ _ ?_)
              clear hK K
              (try simp only [Act.put, List.setIfInBounds_toArray, List.set_cons_zero, List.set_cons_succ])
              obtain ⟨v', w4, hap, hsr, hS', ho', ht'⟩ := push_s w3 h3.1 h3.2.1 (opn.rdI_len (rdL i s2).2) (by rw [rdL_len]; omega) 22
              have hR' := h3.2.2.1.turn ht' (by omega)
              have hX' := h3.2.2.2.1.turn ht' (by omega)
              have hB' := h3.2.2.2.2.trans (ht'.below fun b hb => by have := HWR.out; omega)
              refine wpAny_ready (rs := [5]) (by kernel_rfl) (by simp) ?_
              refine' AllReady.cons ?hizm31 (fun K hK => ?hrzm31) AllReady.nil
              case hizm31 => (simp only [List.getElem?_toArray, List.getElem?_cons_succ, List.getElem?_cons_zero]; rfl)
              refine want_append rfl rfl rfl rfl hap (hK _ _ ?_)
              clear hK K
              (try simp only [Act.put, List.setIfInBounds_toArray, List.set_cons_zero, List.set_cons_succ])
              refine' wpAny_take (i := 6) ?hizm32 (by kernel_rfl) (by kernel_rfl) (by kernel_rfl) ?hqzm32 (Or.inl ⟨?hwzm32, ?hyzm32⟩) ?hrzm32
              case hizm32 => (simp only [List.getElem?_toArray, List.getElem?_cons_succ, List.getElem?_cons_zero]; rfl)
              case hqzm32 => exact fun _ _ _ h => h
              case hwzm32 => rfl
              case hyzm32 => (intro w0; go_simp; try with_reducible rfl)
              (try simp only [Act.put, List.setIfInBounds_toArray, List.set_cons_zero, List.set_cons_succ])
              refine wpAny_ready (rs := [7]) (by kernel_rfl) (by simp) ?_
              refine' AllReady.cons ?hizm33 (fun K hK => ?hrzm33) AllReady.nil
              case hizm33 => (simp only [List.getElem?_toArray, List.getElem?_cons_succ, List.getElem?_cons_zero]; rfl)
              refine want_store_run rfl rfl rfl rfl hsr (hK _ _ ?_)
              clear hK K
              (try simp only [Act.put, List.setIfInBounds_toArray, List.set_cons_zero, List.set_cons_succ])
              refine wpAny_done (by kernel_rfl) ?_ _
              go_wp2_with fail
              exact ⟨⟨i + 1, v', hin, by push_cast; rfl, HEQ.out v' _ ⟨hS', ho', hR', hX', hB'⟩⟩, by simp [intOf]; omega⟩
            case hdzm43 =>
              go_simp
              (refine (opn.id_s (fun b => b = R + 1 ∨ wr.drew.heap.size ≤ b) (R + 1) (rdL i s2).2 wr.drew HGD.out (.inl rfl) (fun b hb => .inr hb)).mono ?_; rintro e w3 ⟨rfl, hr3, ht3⟩)
              have h3 := HOD.out.read hRS HWR.out ht3 (fun b hb => hb) hr3
              have c36b := (MgBlk.of h3.1).ids
              refine hK _ _ ?_
              clear hK K
              (try simp only [Act.put, List.setIfInBounds_toArray, List.set_cons_zero, List.set_cons_succ])
              refine wpAny_ready (rs := [1, 4]) (by kernel_rfl) (by simp) ?_
              refine' AllReady.cons ?hazm42 (fun K hK => ?hczm42) (AllReady.cons ?hbzm42 (fun K hK => ?hdzm42) AllReady.nil)
              case hazm42 => (simp only [List.getElem?_toArray, List.getElem?_cons_succ, List.getElem?_cons_zero]; rfl)
              case hbzm42 => (simp only [List.getElem?_toArray, List.getElem?_cons_succ, List.getElem?_cons_zero]; rfl)
              case hczm42 =>
                go_simp
                refine hK _ _ ?_
                clear hK K
                (try simp only [Act.put, List.setIfInBounds_toArray, List.set_cons_zero, List.set_cons_succ])
                refine wpAny_ready (rs := [4]) (by kernel_rfl) (by simp) ?_
                refine' AllReady.cons ?hizm34 (fun K hK => ?hrzm34) AllReady.nil
                case hizm34 => (simp only [List.getElem?_toArray, List.getElem?_cons_succ, List.getElem?_cons_zero]; rfl)
                refine want_build1 (y := (rdI (rdL i s2).2).1) rfl rfl rfl (opn.rdI_len _) (hK _ _ ?_)
                clear hK K
                (try simp only [Act.put, List.setIfInBounds_toArray, List.set_cons_zero, List.set_cons_succ])
                obtain ⟨v', w4, hap, hsr, hS', ho', ht'⟩ := push_s w3 h3.1 h3.2.1 (opn.rdI_len (rdL i s2).2) (by rw [rdL_len]; omega) 22
                have hR' := h3.2.2.1.turn ht' (by omega)
                have hX' := h3.2.2.2.1.turn ht' (by omega)
                have hB' := h3.2.2.2.2.trans (ht'.below fun b hb => by have := HWR.out; omega)
                refine wpAny_ready (rs := [5]) (by kernel_rfl) (by simp) ?_
                refine' AllReady.cons ?hizm35 (fun K hK => ?hrzm35) AllReady.nil
                case hizm35 => (simp only [List.getElem?_toArray, List.getElem?_cons_succ, List.getElem?_cons_zero]; rfl)
                refine want_append rfl rfl rfl rfl hap (hK _ _ ?_)
                clear hK K
                (try simp only [Act.put, List.setIfInBounds_toArray, List.set_cons_zero, List.set_cons_succ])
                refine' wpAny_take (i := 6) ?hizm36 (by kernel_rfl) (by kernel_rfl) (by kernel_rfl) ?hqzm36 (Or.inl ⟨?hwzm36, ?hyzm36⟩) ?hrzm36
                case hizm36 => (simp only [List.getElem?_toArray, List.getElem?_cons_succ, List.getElem?_cons_zero]; rfl)
                case hqzm36 => exact fun _ _ _ h => h
                case hwzm36 => rfl
                case hyzm36 => (intro w0; go_simp; try with_reducible rfl)
                (try simp only [Act.put, List.setIfInBounds_toArray, List.set_cons_zero, List.set_cons_succ])
                refine wpAny_ready (rs := [7]) (by kernel_rfl) (by simp) ?_
                refine' AllReady.cons ?hizm37 (fun K hK => ?hrzm37) AllReady.nil
                case hizm37 => (simp only [List.getElem?_toArray, List.getElem?_cons_succ, List.getElem?_cons_zero]; rfl)
                refine want_store_run rfl rfl rfl rfl hsr (hK _ _ ?_)
                clear hK K
                (try simp only [Act.put, List.setIfInBounds_toArray, List.set_cons_zero, List.set_cons_succ])
                refine wpAny_done (by kernel_rfl) ?_ _
                go_wp2_with fail
                exact ⟨⟨i + 1, v', hin, by push_cast; rfl, HEQ.out v' _ ⟨hS', ho', hR', hX', hB'⟩⟩, by simp [intOf]; omega⟩
              case hdzm42 =>
                refine want_build1 (y := (rdI (rdL i s2).2).1) rfl rfl rfl (opn.rdI_len _) (hK _ _ ?_)
                clear hK K
                (try simp only [Act.put, List.setIfInBounds_toArray, List.set_cons_zero, List.set_cons_succ])
                have c36c := (MgBlk.of (h3.1.alloc (.cells (bv (rdI (rdL i s2).2).1).toArray 58))).ids
                refine wpAny_ready (rs := [1]) (by kernel_rfl) (by simp) ?_
                refine' AllReady.cons ?hizm38 (fun K hK => ?hrzm38) AllReady.nil
                case hizm38 => (simp only [List.getElem?_toArray, List.getElem?_cons_succ, List.getElem?_cons_zero]; rfl)
                go_simp
                refine hK _ _ ?_
                clear hK K
                (try simp only [Act.put, List.setIfInBounds_toArray, List.set_cons_zero, List.set_cons_succ])
                obtain ⟨v', w4, hap, hsr, hS', ho', ht'⟩ := push_s w3 h3.1 h3.2.1 (opn.rdI_len (rdL i s2).2) (by rw [rdL_len]; omega) 22
                have hR' := h3.2.2.1.turn ht' (by omega)
                have hX' := h3.2.2.2.1.turn ht' (by omega)
                have hB' := h3.2.2.2.2.trans (ht'.below fun b hb => by have := HWR.out; omega)
                refine wpAny_ready (rs := [5]) (by kernel_rfl) (by simp) ?_
                refine' AllReady.cons ?hizm39 (fun K hK => ?hrzm39) AllReady.nil
                case hizm39 => (simp only [List.getElem?_toArray, List.getElem?_cons_succ, List.getElem?_cons_zero]; rfl)
                refine want_append rfl rfl rfl rfl hap (hK _ _ ?_)
                clear hK K
                (try simp only [Act.put, List.setIfInBounds_toArray, List.set_cons_zero, List.set_cons_succ])
                refine' wpAny_take (i := 6) ?hizm40 (by kernel_rfl) (by kernel_rfl) (by kernel_rfl) ?hqzm40 (Or.inl ⟨?hwzm40, ?hyzm40⟩) ?hrzm40
                case hizm40 => (simp only [List.getElem?_toArray, List.getElem?_cons_succ, List.getElem?_cons_zero]; rfl)
                case hqzm40 => exact fun _ _ _ h => h
                case hwzm40 => rfl
                case hyzm40 => (intro w0; go_simp; try with_reducible rfl)
                (try simp only [Act.put, List.setIfInBounds_toArray, List.set_cons_zero, List.set_cons_succ])
                refine wpAny_ready (rs := [7]) (by kernel_rfl) (by simp) ?_
                refine' AllReady.cons ?hizm41 (fun K hK => ?hrzm41) AllReady.nil
                case hizm41 => (simp only [List.getElem?_toArray, List.getElem?_cons_succ, List.getElem?_cons_zero]; rfl)
                refine want_store_run rfl rfl rfl rfl hsr (hK _ _ ?_)
                clear hK K
                (try simp only [Act.put, List.setIfInBounds_toArray, List.set_cons_zero, List.set_cons_succ])
                refine wpAny_done (by kernel_rfl) ?_ _
                go_wp2_with fail
                exact ⟨⟨i + 1, v', hin, by push_cast; rfl, HEQ.out v' _ ⟨hS', ho', hR', hX', hB'⟩⟩, by simp [intOf]; omega⟩
          · obtain rfl : m = (i : Int) := by omega
            rw [Int.toNat_natCast] at HOF
            have hrl : (rdL i s2).1.length ≤ 255 := by rw [rdL_len]; omega
            have htl : ([] : List UInt8).length ≤ 100000 := Nat.zero_le _
            obtain ⟨o1, ho1⟩ : ∃ o, o = (⟨k, (rdL i s2).1, []⟩ : Mg) := ⟨_, rfl⟩
            obtain ⟨t7, ht7⟩ : ∃ t, t = (rdL i s2).2 := ⟨_, rfl⟩
            have hof2 := HOF.out
            rw [← ho1, ← ht7] at hof2 ho
            have hrl : o1.ids.length ≤ 255 := by rw [ho1]; exact hrl
            have htl : o1.body.length ≤ 100000 := by rw [ho1]; exact htl
            have hof := ho
            clear ho1 ht7 HOF HO HO2 HN1 ho hi hin m0 m1
            have HEND := Lib.hid (opn.end_s (R + 1) t7 wr hof.2.2.1)
            have hrd := (hof.2.1.rdv (by omega)).1
            have HCK := Lib.hid (check_any o1 v wr hrd (by omega))
            have HRD := Lib.hid hrd
            have HLD := Lib.hid (run_load_mg hof.1)
            have hrun := run_store_mg hof.2.2.2.1 rfl zmg nv rfl
            have HRUN := Lib.hid hrun
            have hst2 := setRow_heap wr R _ #[.int .i64 zmg.k, nv, .string (oct.tx zmg.body)] _ _ hof.2.2.2.1
            have HST2 := Lib.hid hst2
            have HOFF := Lib.hid hof
            have HRL := Lib.hid hrl
            obtain ⟨en, hen⟩ : ∃ en, en = endE t7 := ⟨_, rfl⟩
            rw [← hen] at HEND hof2
            have HOF3 := Lib.hid hof2
            clear hof hrl htl hof2 hrd hrun hst2 hen
            by_cases h0 : en = 0
            · subst h0
              obtain ⟨c, hc⟩ : ∃ c, c = checkM o1 := ⟨_, rfl⟩
              have HOF4 : Hid (ofM l = if c ≠ 0 then (zmg, c) else (o1, 0)) := Lib.hid (by rw [HOF3.out, hc]; rfl)
              rw [← hc] at HCK
              clear hc HOF3
              by_cases hc0 : c = 0
              · subst hc0
                have HE : Hid (ofM l = (o1, 0)) := Lib.hid (by rw [HOF4.out]; rfl)
                clear HOF4
                go_wp2_with (first
                  | (go_at_call 40; with_reducible refine HEND.out.mono ?_; rintro e w8 ⟨rfl, rfl⟩)
                  | ((with_reducible refine step_load (t := 24) (x := .tmp 5) (p := ?lpl911) (v := ?lvl911) ?lgl911 ?lol911 ?lxl911 ?lrl911 ?lhl911); (case lgl911 => rfl); (case lol911 => rfl); (case lxl911 => rfl); (case lrl911 => exact HLD.out))
                  | (go_at_call 11; (with_reducible refine HCK.out.mono ?_); rintro e w9 ⟨rfl, hb6⟩; have hX6 := HOFF.out.2.2.2.1.below hb6 HOFF.out.2.2.2.1.lt; have hS6 := HOFF.out.1.below hb6 HOFF.out.1.lt; have hv1 : v.oneCell' = true := (by obtain ⟨ad, cap, hvf, -, -⟩ := HOFF.out.2.1.form; rw [hvf]; rfl); have hld6 := run_load_mg hS6; have hrun6 := run_store_mg hX6 rfl o1 v hv1; have hst6 := setRow_heap w9 R _ #[.int .i64 o1.k, v, .string (oct.tx o1.body)] _ _ hX6; have HST6 := Lib.hid hst6; have HLD6 := Lib.hid hld6; have HRUN6 := Lib.hid hrun6; clear hX6 hS6 hv1 hld6 hrun6 hst6)
                  | ((with_reducible refine step_load (t := 24) (x := .tmp 5) (p := ?lpl971) (v := ?lvl971) ?lgl971 ?lol971 ?lxl971 ?lrl971 ?lhl971); (case lgl971 => rfl); (case lol971 => rfl); (case lxl971 => rfl); (case lrl971 => exact HLD6.out))
                  | ((with_reducible refine step_store_run (t := 24) (x := .tmp 2) (y := .tmp 65) (p := ?spt971) (v := ?svt971) (w' := ?swt971) ?sgt971 ?sot971 ?sxt971 ?syt971 ?srt971 ?sht971); (case sgt971 => rfl); (case sot971 => rfl); (case sxt971 => rfl); (case syt971 => rfl); (case srt971 => exact HRUN6.out)))
                refine bodyPost_ret (results_mg rfl _ _ R _ o1 v rfl HST6.out) rfl ⟨v, by rw [HE.out]; rfl, ?_, ?_⟩
                · rw [HE.out]
                  have h1 := (HOFF.out.2.1.below hb6).turn (turn_row w9 R #[.int .i64 o1.k, v, .string (oct.tx o1.body)]) fun b hb hbR => by
                    have h2 : S < b := HOFF.out.2.1.2.2 b hb
                    omega
                  exact (h1.rdv (by have := HRL.out; omega)).1
                · exact below_row' (HOFF.out.2.2.2.2.trans (hb6.mono HOFF.out.2.2.2.2.size)) HWR.out _
              · have hc1 : (c == 0) = false := beq_eq_false_iff_ne.2 hc0
                have hc2 : (c != 0) = true := bne_iff_ne.2 hc0
                have HE : Hid (ofM l = (zmg, c)) := Lib.hid (by rw [HOF4.out, if_pos hc0])
                clear HOF4 hc0
                go_wp2_with (first
                  | (go_at_call 40; with_reducible refine HEND.out.mono ?_; rintro e w8 ⟨rfl, rfl⟩)
                  | ((with_reducible refine step_load (t := 24) (x := .tmp 5) (p := ?lpl921) (v := ?lvl921) ?lgl921 ?lol921 ?lxl921 ?lrl921 ?lhl921); (case lgl921 => rfl); (case lol921 => rfl); (case lxl921 => rfl); (case lrl921 => exact HLD.out))
                  | (go_at_call 11; (with_reducible refine HCK.out.mono ?_); rintro e w9 ⟨rfl, hb6⟩; have hX6 := HOFF.out.2.2.2.1.below hb6 HOFF.out.2.2.2.1.lt; have HRUN6 := Lib.hid (run_store_mg hX6 rfl zmg nv rfl); have HST6 := Lib.hid (setRow_heap w9 R _ #[.int .i64 zmg.k, nv, .string (oct.tx zmg.body)] _ _ hX6); clear hX6)
                  | ((with_reducible refine step_store_run (t := 24) (x := .tmp 2) (y := .tmp 63) (p := ?spt21) (v := ?svt21) (w' := ?swt21) ?sgt21 ?sot21 ?sxt21 ?syt21 ?srt21 ?sht21); (case sgt21 => rfl); (case sot21 => rfl); (case sxt21 => rfl); (case syt21 => rfl); (case srt21 => exact HRUN6.out)))
                refine bodyPost_ret (results_mg rfl _ _ R _ zmg nv rfl HST6.out) rfl ⟨nv, by rw [HE.out]; rfl, by rw [HE.out]; exact nv_rd _, below_row' (HOFF.out.2.2.2.2.trans (hb6.mono HOFF.out.2.2.2.2.size)) HWR.out _⟩
            · have hc1 : (en == 0) = false := beq_eq_false_iff_ne.2 h0
              have hc2 : (en != 0) = true := bne_iff_ne.2 h0
              have HE : Hid (ofM l = (zmg, en)) := Lib.hid (by rw [HOF3.out, if_pos h0])
              clear HOF3 h0
              go_wp2_with (first
                | (go_at_call 40; with_reducible refine HEND.out.mono ?_; rintro e w8 ⟨rfl, rfl⟩)
                | ((with_reducible refine step_store_run (t := 24) (x := .tmp 2) (y := .tmp 63) (p := ?spt31) (v := ?svt31) (w' := ?swt31) ?sgt31 ?sot31 ?sxt31 ?syt31 ?srt31 ?sht31); (case sgt31 => rfl); (case sot31 => rfl); (case sxt31 => rfl); (case syt31 => rfl); (case srt31 => exact HRUN.out)))
              refine bodyPost_ret (results_mg rfl _ _ R _ zmg nv rfl HST2.out) rfl ⟨nv, by rw [HE.out]; rfl, by rw [HE.out]; exact nv_rd _, below_row' HOFF.out.2.2.2.2 HWR.out _⟩
      · -- a body
        rw [if_neg (show ¬ ((2 : Int) = 0) by decide)] at HOF
        rw [if_neg (by decide)] at hrdM
        rw [hrdM] at HOF
        obtain ⟨t7, ht7⟩ : ∃ sx, sx = (rdT2 st).2 := ⟨_, rfl⟩
        obtain ⟨bd, hbd⟩ : ∃ k, k = (rdT2 st).1 := ⟨_, rfl⟩
        have hbl : bd.length ≤ 100000 := by rw [hbd]; exact rdT2_len _
        have HTX := text_s (R + 1) st wc HO.out.rdr
        rw [← ht7, ← hbd] at HTX HOF
        obtain ⟨bs, hbs⟩ : ∃ b, b = oct.tx bd := ⟨_, rfl⟩
        rw [← hbs] at HTX
        have HBS := Lib.hid hbs
        have HTX := Lib.hid HTX
        clear hrdM ht7 hbd hbs
        go_upto_region 16 with (first
          | (go_at_call 25; (with_reducible refine (HKA.out _).mono ?_); rintro e w4 ⟨rfl, rfl⟩)
          | (go_at_call 39; (with_reducible refine HTX.out.mono ?_); rintro e w2 ⟨rfl, hr2, ht2⟩; have h2 := HO.out.read hRS HWR.out ht2 (fun b hb => .inl hb) hr2; have cc := (MgBlk.of h2.1).body; have ff := h2.1.frozen 2; have HO2 := Lib.hid h2; clear h2 hr2 ht2))
        obtain ⟨wr, hwr⟩ : ∃ u, u = w2.setCell ⟨S, 2, none⟩ (.string bs) := ⟨_, rfl⟩
        obtain ⟨o1, ho1⟩ : ∃ o, o = (⟨k, [], bd⟩ : Mg) := ⟨_, rfl⟩
        have hof : OfS w R S o1 t7 wr nv := by rw [hwr, ho1, HBS.out]; exact HO2.out.put hRS HWR.out ((Turn.refl (· = S) w2).setCell rfl _) (mgm_body HO2.out.1 bd) rfl
        have hof2 := HOF.out
        rw [← ho1] at hof2
        have hrl : o1.ids.length ≤ 255 := by rw [ho1]; exact Nat.zero_le _
        have htl : o1.body.length ≤ 100000 := by rw [ho1]; exact hbl
        obtain ⟨v, hv0⟩ : ∃ v, v = nv := ⟨_, rfl⟩
        rw [← hv0] at hof
        refine wp_at hwr.symm ?_
        clear hwr ho1 HOF HO HO2 hv0 hbl HTX HBS cc ff hE c0
        have HEND := Lib.hid (opn.end_s (R + 1) t7 wr hof.2.2.1)
        have hrd := (hof.2.1.rdv (by omega)).1
        have HCK := Lib.hid (check_any o1 v wr hrd (by omega))
        have HRD := Lib.hid hrd
        have HLD := Lib.hid (run_load_mg hof.1)
        have hrun := run_store_mg hof.2.2.2.1 rfl zmg nv rfl
        have HRUN := Lib.hid hrun
        have hst2 := setRow_heap wr R _ #[.int .i64 zmg.k, nv, .string (oct.tx zmg.body)] _ _ hof.2.2.2.1
        have HST2 := Lib.hid hst2
        have HOFF := Lib.hid hof
        have HRL := Lib.hid hrl
        obtain ⟨en, hen⟩ : ∃ en, en = endE t7 := ⟨_, rfl⟩
        rw [← hen] at HEND hof2
        have HOF3 := Lib.hid hof2
        clear hof hrl htl hof2 hrd hrun hst2 hen
        by_cases h0 : en = 0
        · subst h0
          obtain ⟨c, hc⟩ : ∃ c, c = checkM o1 := ⟨_, rfl⟩
          have HOF4 : Hid (ofM l = if c ≠ 0 then (zmg, c) else (o1, 0)) := Lib.hid (by rw [HOF3.out, hc]; rfl)
          rw [← hc] at HCK
          clear hc HOF3
          by_cases hc0 : c = 0
          · subst hc0
            have HE : Hid (ofM l = (o1, 0)) := Lib.hid (by rw [HOF4.out]; rfl)
            clear HOF4
            go_wp2_with (first
              | (go_at_call 40; with_reducible refine HEND.out.mono ?_; rintro e w8 ⟨rfl, rfl⟩)
              | ((with_reducible refine step_load (t := 24) (x := .tmp 5) (p := ?lpl912) (v := ?lvl912) ?lgl912 ?lol912 ?lxl912 ?lrl912 ?lhl912); (case lgl912 => rfl); (case lol912 => rfl); (case lxl912 => rfl); (case lrl912 => exact HLD.out))
              | (go_at_call 11; (with_reducible refine HCK.out.mono ?_); rintro e w9 ⟨rfl, hb6⟩; have hX6 := HOFF.out.2.2.2.1.below hb6 HOFF.out.2.2.2.1.lt; have hS6 := HOFF.out.1.below hb6 HOFF.out.1.lt; have hv1 : v.oneCell' = true := (by obtain ⟨ad, cap, hvf, -, -⟩ := HOFF.out.2.1.form; rw [hvf]; rfl); have hld6 := run_load_mg hS6; have hrun6 := run_store_mg hX6 rfl o1 v hv1; have hst6 := setRow_heap w9 R _ #[.int .i64 o1.k, v, .string (oct.tx o1.body)] _ _ hX6; have HST6 := Lib.hid hst6; have HLD6 := Lib.hid hld6; have HRUN6 := Lib.hid hrun6; clear hX6 hS6 hv1 hld6 hrun6 hst6)
              | ((with_reducible refine step_load (t := 24) (x := .tmp 5) (p := ?lpl972) (v := ?lvl972) ?lgl972 ?lol972 ?lxl972 ?lrl972 ?lhl972); (case lgl972 => rfl); (case lol972 => rfl); (case lxl972 => rfl); (case lrl972 => exact HLD6.out))
              | ((with_reducible refine step_store_run (t := 24) (x := .tmp 2) (y := .tmp 65) (p := ?spt972) (v := ?svt972) (w' := ?swt972) ?sgt972 ?sot972 ?sxt972 ?syt972 ?srt972 ?sht972); (case sgt972 => rfl); (case sot972 => rfl); (case sxt972 => rfl); (case syt972 => rfl); (case srt972 => exact HRUN6.out)))
            refine bodyPost_ret (results_mg rfl _ _ R _ o1 v rfl HST6.out) rfl ⟨v, by rw [HE.out]; rfl, ?_, ?_⟩
            · rw [HE.out]
              have h1 := (HOFF.out.2.1.below hb6).turn (turn_row w9 R #[.int .i64 o1.k, v, .string (oct.tx o1.body)]) fun b hb hbR => by
                have h2 : S < b := HOFF.out.2.1.2.2 b hb
                omega
              exact (h1.rdv (by have := HRL.out; omega)).1
            · exact below_row' (HOFF.out.2.2.2.2.trans (hb6.mono HOFF.out.2.2.2.2.size)) HWR.out _
          · have hc1 : (c == 0) = false := beq_eq_false_iff_ne.2 hc0
            have hc2 : (c != 0) = true := bne_iff_ne.2 hc0
            have HE : Hid (ofM l = (zmg, c)) := Lib.hid (by rw [HOF4.out, if_pos hc0])
            clear HOF4 hc0
            go_wp2_with (first
              | (go_at_call 40; with_reducible refine HEND.out.mono ?_; rintro e w8 ⟨rfl, rfl⟩)
              | ((with_reducible refine step_load (t := 24) (x := .tmp 5) (p := ?lpl922) (v := ?lvl922) ?lgl922 ?lol922 ?lxl922 ?lrl922 ?lhl922); (case lgl922 => rfl); (case lol922 => rfl); (case lxl922 => rfl); (case lrl922 => exact HLD.out))
              | (go_at_call 11; (with_reducible refine HCK.out.mono ?_); rintro e w9 ⟨rfl, hb6⟩; have hX6 := HOFF.out.2.2.2.1.below hb6 HOFF.out.2.2.2.1.lt; have HRUN6 := Lib.hid (run_store_mg hX6 rfl zmg nv rfl); have HST6 := Lib.hid (setRow_heap w9 R _ #[.int .i64 zmg.k, nv, .string (oct.tx zmg.body)] _ _ hX6); clear hX6)
              | ((with_reducible refine step_store_run (t := 24) (x := .tmp 2) (y := .tmp 63) (p := ?spt22) (v := ?svt22) (w' := ?swt22) ?sgt22 ?sot22 ?sxt22 ?syt22 ?srt22 ?sht22); (case sgt22 => rfl); (case sot22 => rfl); (case sxt22 => rfl); (case syt22 => rfl); (case srt22 => exact HRUN6.out)))
            refine bodyPost_ret (results_mg rfl _ _ R _ zmg nv rfl HST6.out) rfl ⟨nv, by rw [HE.out]; rfl, by rw [HE.out]; exact nv_rd _, below_row' (HOFF.out.2.2.2.2.trans (hb6.mono HOFF.out.2.2.2.2.size)) HWR.out _⟩
        · have hc1 : (en == 0) = false := beq_eq_false_iff_ne.2 h0
          have hc2 : (en != 0) = true := bne_iff_ne.2 h0
          have HE : Hid (ofM l = (zmg, en)) := Lib.hid (by rw [HOF3.out, if_pos h0])
          clear HOF3 h0
          go_wp2_with (first
            | (go_at_call 40; with_reducible refine HEND.out.mono ?_; rintro e w8 ⟨rfl, rfl⟩)
            | ((with_reducible refine step_store_run (t := 24) (x := .tmp 2) (y := .tmp 63) (p := ?spt32) (v := ?svt32) (w' := ?swt32) ?sgt32 ?sot32 ?sxt32 ?syt32 ?srt32 ?sht32); (case sgt32 => rfl); (case sot32 => rfl); (case sxt32 => rfl); (case syt32 => rfl); (case srt32 => exact HRUN.out)))
          refine bodyPost_ret (results_mg rfl _ _ R _ zmg nv rfl HST2.out) rfl ⟨nv, by rw [HE.out]; rfl, by rw [HE.out]; exact nv_rd _, below_row' HOFF.out.2.2.2.2 HWR.out _⟩
      · have HE : Hid (ofM l = (zmg, 10)) := Lib.hid (by rw [HOF.out, if_pos rfl])
        have hrun := run_store_mg HX.out rfl zmg nv rfl
        have hst2 := setRow_heap wc R _ #[.int .i64 zmg.k, nv, .string (oct.tx zmg.body)] _ _ HX.out
        have HRUN := Lib.hid hrun
        clear hrun hrdM HOF
        go_wp2_with (first
          | (go_at_call 25; (with_reducible refine (HKA.out _).mono ?_); rintro e w4 ⟨rfl, rfl⟩)
          | ((with_reducible refine step_store_run (t := 24) (x := .tmp 2) (y := .tmp 33) (p := ?sptk) (v := ?svtk) (w' := ?swtk) ?sgtk ?sotk ?sxtk ?sytk ?srtk ?shtk); (case sgtk => rfl); (case sotk => rfl); (case sxtk => rfl); (case sytk => rfl); (case srtk => exact HRUN.out)))
        refine bodyPost_ret (results_mg rfl _ _ R _ zmg nv rfl hst2) rfl ⟨nv, by rw [HE.out]; rfl, by rw [HE.out]; exact nv_rd _, below_row' HO.out.2.2.2.2 HWR.out _⟩
end Go.Proofs.Ytbfjljbllfjicaa.msg
