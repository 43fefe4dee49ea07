/-
  petrelref14.Of, any text; lists of entries in memory; petrelref14.All, Same.
-/
import Derived.Test.YtbhkegdohiekfaaDoorEnoa
import Derived.Test.YtbhkegdohiekfaaDoorEno1
import Derived.Test.YtbhkegdohiekfaaDoorEno2
import Derived.Test.YtbhkegdohiekfaaDoorEno3
import Derived.Test.YtbhkegdohiekfaaDoorEno4
import Derived.Test.YtbhkegdohiekfaaDoorOwnk
import Derived.Test.YtbhkegdohiekfaaDoorStrs
import Derived.RegionTactic
import Derived.BigRegion
import Derived.BigQuiet
namespace Go.Proofs.YtbhkegdohiekfaaDoor.ent
open Go.RowKit Go.Proofs.YtbhkegdohiekfaaDoor.mem Go.Proofs.YtbhkegdohiekfaaDoor.sha Go.Proofs.YtbhkegdohiekfaaDoor.ids Go.Proofs.YtbhkegdohiekfaaDoor.rows
open Go.Proofs.YtbhkegdohiekfaaDoor.opn (b1 b2 b4 num txt idl byte rd rdN rdT rdI rdS rdL St Reads Stays endE zid mkId)
open Go.Proofs.YtbhkegdohiekfaaDoor.kit (Strs)

theorem of_any (s : ByteArray) (w : World) (hs : s.size ≤ 1000000) : Calls Tryd.prog 13 #[.string s] w fun x w' => OfOut s.data.toList w x w' := by
  obtain ⟨k, hk⟩ : ∃ x, x = (rdN 1 (s.data.toList, 0)).1 := ⟨_, rfl⟩
  obtain ⟨st, hst⟩ : ∃ x, x = (rdN 1 (s.data.toList, 0)).2 := ⟨_, rfl⟩
  by_cases h0 : st.2 = 0
  case neg => exact of_a s w hs k st hk hst h0
  by_cases h1 : endE (rdE k st).2 = 0
  · by_cases h2 : checkE (rdE k st).1 = 0
    · rcases kindE_cases k with ⟨a, _⟩ | ⟨a, _⟩ | ⟨a, _⟩ | ⟨a, _⟩ | ⟨a, _⟩
      · exact of_1ok s w hs k st hk hst h0 a h1 h2
      · exact of_2ok s w hs k st hk hst h0 a h1 h2
      · exact of_3ok s w hs k st hk hst h0 a h1 h2
      · by_cases hx : (rdT st).2.2 = 0
        · exact of_4ok s w hs k st hk hst h0 a hx h1 h2
        · exact of_4torn s w hs k st hk hst h0 a hx
      · exact of_b s w hs k st hk hst h0 a
    · rcases kindE_cases k with ⟨a, _⟩ | ⟨a, _⟩ | ⟨a, _⟩ | ⟨a, _⟩ | ⟨a, _⟩
      · exact of_1check s w hs k st hk hst h0 a h1 h2
      · exact of_2check s w hs k st hk hst h0 a h1 h2
      · exact of_3check s w hs k st hk hst h0 a h1 h2
      · by_cases hx : (rdT st).2.2 = 0
        · exact of_4check s w hs k st hk hst h0 a hx h1 h2
        · exact of_4torn s w hs k st hk hst h0 a hx
      · exact of_b s w hs k st hk hst h0 a
  · rcases kindE_cases k with ⟨a, _⟩ | ⟨a, _⟩ | ⟨a, _⟩ | ⟨a, _⟩ | ⟨a, _⟩
    · exact of_1end s w hs k st hk hst h0 a h1
    · exact of_2end s w hs k st hk hst h0 a h1
    · exact of_3end s w hs k st hk hst h0 a h1
    · by_cases hx : (rdT st).2.2 = 0
      · exact of_4end s w hs k st hk hst h0 a hx h1
      · exact of_4torn s w hs k st hk hst h0 a hx
    · exact of_b s w hs k st hk hst h0 a
theorem ofE_commit (s : List UInt8) : (ofE s).1.commit.length = 32 := by
  unfold ofE
  repeat' split
  all_goals first | exact zlen | exact rdE_commit _ _
theorem ofE_sizes (s : List UInt8) : (ofE s).1.topic.length ≤ 255 ∧ (ofE s).1.body.length ≤ s.length := by
  have hz : zen.topic.length ≤ 255 ∧ zen.body.length ≤ s.length := ⟨Nat.zero_le _, Nat.zero_le _⟩
  unfold ofE
  repeat' split
  all_goals first | exact hz | exact ⟨rdE_topic _ _, Nat.le_trans (rdE_body _ _) (rd_left 1 (s, 0))⟩

/-! Lists of entries. -/
theorem enc_uni (e : En) (hr : e.commit.length = 32) : (enc e).length = 35 ∧ ∀ u ∈ enc e, u.oneCell' = true := ⟨enc_len e hr, enc_one e⟩
def okEs (L : List En) : Prop := ∀ e ∈ L, e.commit.length = 32
def OwnE (w : World) (F : Nat → Prop) (v : Value) (L : List En) : Prop := OwnK w F 25 35 v (L.map enc)
/-- a list of entries that reads -/
def EnV (w : World) (v : Value) (L : List En) : Prop := ∃ ad cap, v = .slice ad L.length cap ∧ ∀ i, i < L.length → ∃ b off, ad = some ⟨b, off, none⟩ ∧ b < w.heap.size ∧ ∀ j u, (enc (L.getD i zen))[j]? = some u → w.cell? ⟨b, off + i * 35 + j, none⟩ = some u
theorem EnV.next {w w' : World} {v : Value} {L : List En} (h : EnV w v L) (hb : Below w.heap.size w w') : EnV w' v L := by
  obtain ⟨ad, cap, hv, hc⟩ := h
  refine ⟨ad, cap, hv, fun i hi => ?_⟩
  obtain ⟨b, off, e, hlt, h0⟩ := hc i hi
  exact ⟨b, off, e, Nat.lt_of_lt_of_le hlt hb.size, fun j u hj => (hb.cell (p := ⟨b, off + i * 35 + j, none⟩) hlt).trans (h0 j u hj)⟩
theorem getD_enc (L : List En) {i : Nat} (hi : i < L.length) : (L.map enc).getD i [] = enc (L.getD i zen) := by
  rw [List.getD_eq_getElem?_getD, List.getElem?_map, List.getD_eq_getElem?_getD, List.getElem?_eq_getElem hi]
  rfl
theorem okEs.get {L : List En} (h : okEs L) {i : Nat} (hi : i < L.length) : (L.getD i zen).commit.length = 32 := by
  rw [List.getD_eq_getElem?_getD, List.getElem?_eq_getElem hi]
  exact h _ (List.getElem_mem hi)
theorem OwnE.env {w : World} {F : Nat → Prop} {v : Value} {L : List En} (h : OwnE w F v L) (hL : okEs L) : EnV w v L := by
  by_cases h0 : L.length = 0
  · obtain ⟨ad, cap, hv⟩ := OwnK.form h
    rw [List.length_map] at hv
    exact ⟨ad, cap, hv, fun i hi => by omega⟩
  · obtain ⟨g, cap, cur, rfl, hF, hg, _⟩ := OwnK.at_ h (by rw [List.length_map]; omega)
    refine ⟨_, cap, by rw [List.length_map], fun i hi => ⟨g, 0, rfl, (Array.getElem?_eq_some_iff.1 hg).1, fun j u hj => ?_⟩⟩
    have hlt : j < 35 := by
      have := (List.getElem?_eq_some_iff.1 hj).1
      rw [enc_len _ (hL.get hi)] at this
      exact this
    have := OwnK.cell h (i := i) (j := j) (by rw [List.length_map]; exact hi) hlt (u := u) (by rw [getD_enc L hi]; exact hj)
    rwa [← Nat.zero_add (i * 35)] at this
/-- a comparison of two aggregates in a region that only reads -/
theorem quiet_bin {P : Program} {ops : Array Oper} {w : World} {Q : Act → Prop} {a : Act} {o : Oper} {rest : List Oper} {op : BinOp} {t t2 : TypeId} {x y : Operand} {u v r : Value} (hg : o.guard = none) (ho : o.op = .binOp op t x y t2) (hx : a.eval x = u) (hy : a.eval y = v)
    (hgd : ∀ z, (eqGuard op t x y u v).run P z = .ok () z) (hr : ∀ z, (binOp op t u v).run P z = .ok r z) (h : wpQuiet P ops (fun w' => ∃ n, w' = w.drewN n) Q rest (a.put o.dst r)) : wpQuiet P ops (fun w' => ∃ n, w' = w.drewN n) Q (o :: rest) a := by
  have hw : Region.wanted o (yielded ops a.tmps) = true := by simp [Region.wanted, hg]
  unfold wpQuiet
  rw [if_pos hw]
  refine ⟨r, ?_, h⟩
  rintro _ ⟨n, rfl⟩
  unfold Oper.quietAt
  rw [exec_bin ho hx hy (hgd _) (hr _)]
  exact ⟨rfl, rfl⟩
theorem info_en3 : (Tryd.prog.info? 25).map (fun i => (i.zero, i.size, i.bytes)) = some (some (env zen), 35, 72) := by kernel_rfl
/-- '[]Entry{e}' -/
theorem run_build1e (w : World) (e : En) (hr : e.commit.length = 32) : (Instr.buildSlice 40 1 #[(0, env e)]).run Tryd.prog w = .ok (.slice (some ⟨w.heap.size, 0, none⟩) 1 1) (w.alloc (.cells (enc e).toArray 25)) := by
  obtain ⟨y, hy, hz, hs, _⟩ := info_parts info_en3
  have hf : ∀ arr : Array Value, arr.size = 35 → Instr.fill (fun i => some (i * 35, 35)) arr [(0, .agg (enc e).toArray)] = some (enc e).toArray := fun arr ha => by
    have h1 := fold_all (enc e) arr (by rw [ha, enc_len e hr])
    have hb : (enc e).length = 35 := enc_len e hr
    simp only [Instr.fill, Value.cells, Nat.zero_mul, Nat.zero_add, List.size_toArray, hb, ha]
    simp [h1]
  have hzc : (env zen).cells.size = 35 := rfl
  unfold Instr.buildSlice env
  simp only [Sem.run_bind, run_underlying Tryd.underlying40, Result.andThen_ok, sizeOf, typeInfo]
  simp only [Nat.one_mul]
  simp [hy, hs, hf, newRow, newObj]
  rfl
theorem step_build1e {ops : Array Oper} {rest : List Oper} {o : Oper} {a : Act} {w : World} {Q : Exit → Act → World → Prop} {x : Operand} {e : En} (hg : o.guard = none)
    (ho : o.op = .buildSlice 40 1 #[(0, x)]) (hx : a.eval x = env e) (hr : e.commit.length = 32)
    (h : wpList Tryd.prog ops Q rest (a.put o.dst (.slice (some ⟨w.heap.size, 0, none⟩) 1 1)) (w.alloc (.cells (enc e).toArray 25))) : wpList Tryd.prog ops Q (o :: rest) a w := by
  refine wpList_plain hg fun K hK => ?_
  unfold Oper.wp execOp
  have hrun := run_build1e w e hr
  simp only [ho, List.map_toArray, List.map_cons, List.map_nil, hx, Sem.run_bind, hrun, Result.andThen_ok, Sem.run_pure]
  exact hK _ _ h
/-- 'append(v, e)', e in a box of its own -/
theorem push_en {B : Nat} {w : World} {v : Value} {L : List En} (hO : OwnE w (B ≤ ·) v L) (e : En) (hr : e.commit.length = 32) (hL : L.length < 100000) (hB : B ≤ w.heap.size) (ty : TypeId) :
    ∃ v' w', (Builtin.append_ #[40, 40] ty #[v, .slice (some ⟨w.heap.size, 0, none⟩) 1 1]).run Tryd.prog (w.alloc (.cells (enc e).toArray 25)) = .ok v' w' ∧
      OwnE w' (B ≤ ·) v' (L ++ [e]) ∧ Below B w w' := by
  obtain ⟨i0, hi, hz0, hz1, hz2⟩ := info_parts info_en3
  have h2 : Below w.heap.size w (w.alloc (.cells (enc e).toArray 25)) := (Below.refl _ _).alloc (Nat.le_refl _) _
  have hb := Blk.new w 25 (enc e).toArray
  obtain ⟨v', w', hrun, hO', hT⟩ := run_append_k (c := 35) (by_ := 72) Tryd.underlying40 hi hz0 hz1 hz2 rfl (by decide) (OwnK.next hO h2) (enc_uni e hr) (g := w.heap.size) (cap := 1) (fun j u hu => by
    rw [hb.cell, List.getElem?_toArray]; exact hu) (by rw [List.length_map]; omega) (by decide) ty
  refine ⟨v', w', hrun, ?_, (h2.mono hB).trans (hT.below fun j hj => hj.elim (fun h => hO.2.2 j h) (fun h => by have := h2.size; omega))⟩
  have := hO'.place (G := (B ≤ ·)) fun j hj => (hO'.2.2 j hj).elim (fun h => hO.2.2 j h) (fun h => by show B ≤ j; have := h2.size; omega)
  unfold OwnE
  rw [List.map_append]
  exact this
theorem results_t3 {fn : Func} {p q r : Tmp} (h : fn.results = #[.tmp p, .tmp q, .tmp r]) (tmps : Array Value) (w : World) :
    (results fn tmps).run Tryd.prog w = .ok (.tuple #[tmps.getD p undef, tmps.getD q undef, tmps.getD r undef]) w := by
  simp [results, h]
/-- the texts of a row -/
def txs (n : Nat) (S : Nat → ByteArray) : List (List UInt8) := (List.range n).map fun i => (S i).data.toList
theorem txs_len (n : Nat) (S : Nat → ByteArray) : (txs n S).length = n := by simp [txs]
theorem txs_get (n : Nat) (S : Nat → ByteArray) {i : Nat} (h : i < n) : (txs n S).getD i [] = (S i).data.toList := by
  unfold txs
  rw [List.getD_eq_getElem?_getD, List.getElem?_map, List.getElem?_range h]
  rfl
def pre (L : List (List UInt8)) (i : Nat) : List En := (L.take i).map fun s => (ofE s).1
theorem pre_len (L : List (List UInt8)) {i : Nat} (h : i ≤ L.length) : (pre L i).length = i := by unfold pre; rw [List.length_map, List.length_take]; omega
theorem pre_ok (L : List (List UInt8)) (i : Nat) : okEs (pre L i) := fun e he => by
  obtain ⟨s, _, rfl⟩ := List.mem_map.1 he
  exact ofE_commit s
theorem pre_snoc (L : List (List UInt8)) {i : Nat} (h : i < L.length) : pre L (i + 1) = pre L i ++ [(ofE (L.getD i [])).1] := by
  unfold pre
  rw [List.take_succ_eq_append_getElem h, List.map_append, List.getD_eq_getElem?_getD, List.getElem?_eq_getElem h]
  rfl
theorem allE_stop : ∀ (L : List (List UInt8)) (i : Nat), i < L.length → (∀ j, j < i → (ofE (L.getD j [])).2 = 0) → (ofE (L.getD i [])).2 ≠ 0 → allE L = (pre L i, i, (ofE (L.getD i [])).2)
  | [], i, h, _, _ => by simp at h
  | s :: L, 0, _, _, he => by
    rw [List.getD_cons_zero] at he ⊢
    unfold allE
    rw [if_pos he]
    rfl
  | s :: L, i + 1, h, hj, he => by
    have h0 : (ofE s).2 = 0 := by have := hj 0 (by omega); rwa [List.getD_cons_zero] at this
    rw [List.getD_cons_succ] at he ⊢
    have ih := allE_stop L i (by simpa using h) (fun j hh => by have := hj (j + 1) (by omega); rwa [List.getD_cons_succ] at this) he
    unfold allE
    rw [if_neg (fun x => x h0), ih]
    rfl
theorem allE_all : ∀ (L : List (List UInt8)), (∀ j, j < L.length → (ofE (L.getD j [])).2 = 0) → allE L = (pre L L.length, L.length, 0)
  | [], _ => rfl
  | s :: L, hj => by
    have h0 : (ofE s).2 = 0 := by have := hj 0 (by simp); rwa [List.getD_cons_zero] at this
    have ih := allE_all L (fun j hh => by have := hj (j + 1) (by simpa using hh); rwa [List.getD_cons_succ] at this)
    unfold allE
    rw [if_neg (fun x => x h0), ih]
    rfl
theorem allE_ok : ∀ L : List (List UInt8), okEs (allE L).1
  | [] => fun e he => by cases he
  | s :: L => by
    unfold allE
    split
    · exact fun e he => by cases he
    · intro e he
      rcases List.mem_cons.1 he with rfl | he
      · exact ofE_commit s
      · exact allE_ok L e he

set_option maxHeartbeats 4000000 in
set_option maxRecDepth 100000 in
theorem all_ref (ad : Option Addr) (n cap : Nat) (T : Nat → ByteArray) (w : World) (h : Strs w ad n T) (hn : n ≤ 10000) (hs : ∀ i, i < n → (T i).size ≤ 1000000) :
    Calls Tryd.prog 15 #[.slice ad n cap] w fun x w' => ∃ v, x = .returned (.tuple #[v, .int .i64 ((allE (txs n T)).2.1 : Int), .int .i64 (allE (txs n T)).2.2]) ∧ OwnE w' (w.heap.size ≤ ·) v (allE (txs n T)).1 ∧ Below w.heap.size w w' := by
  have HL := Lib.hid (txs_len n T)
  have HTX := Lib.hid (fun i (hi : i < n) => txs_get n T hi)
  obtain ⟨L, hL⟩ : ∃ L, L = txs n T := ⟨_, rfl⟩
  rw [← hL] at HL HTX ⊢
  have HH := Lib.hid h
  have HSZ := Lib.hid hs
  obtain ⟨B, hB⟩ : ∃ B, B = w.heap.size := ⟨_, rfl⟩
  rw [← hB]
  have HBW := Lib.hid hB
  clear hL h hs hB
  go_enter Tryd.func15, Tryd.ntmps15
  go_wp2_with fail
  go_loopg [5, 6] (n + 1) (fun gk s5 s6 wr => ∃ i : Nat, s6 = .int .i64 i ∧ i ≤ n ∧ n - i < gk ∧ Hid (OwnE wr (B ≤ ·) s5 (pre L i)) ∧ Hid (Below B w wr) ∧ Hid (∀ j, j < i → (ofE (L.getD j [])).2 = 0))
  case atStart => exact ⟨0, rfl, Nat.zero_le _, by omega, Lib.hid (OwnK.nil _ _ _ _), Lib.hid (Below.refl _ _), Lib.hid fun j hj => by omega⟩
  case round =>
    obtain ⟨i, rfl, hi, hgk, HO, HB, HE⟩ := hrel
    have i0 : (0 : Int) ≤ (i : Int) := Int.natCast_nonneg _
    by_cases hlt : i < n
    · have hltz : (i : Int) < (n : Int) := by omega
      obtain ⟨b, off, rfl, hbl, hc, -⟩ := HH.out i hlt
      have cs : wr.cell? ⟨b, off + i, none⟩ = some (.string (T i)) := (HB.out.cell (p := ⟨b, off + i, none⟩) (by rw [HBW.out]; exact hbl)).trans hc
      obtain ⟨t, ht⟩ : ∃ t, t = T i := ⟨_, rfl⟩
      rw [← ht] at cs
      have hof := of_any t wr (by rw [ht]; exact HSZ.out i hlt)
      have hli : L.getD i [] = t.data.toList := by rw [ht]; exact HTX.out i hlt
      unfold OfOut at hof
      rw [← hli] at hof
      obtain ⟨e, he⟩ : ∃ e, e = (ofE (L.getD i [])).1 := ⟨_, rfl⟩
      obtain ⟨f, hf⟩ : ∃ f, f = (ofE (L.getD i [])).2 := ⟨_, rfl⟩
      have hec : e.commit.length = 32 := by rw [he]; exact ofE_commit _
      rw [← he, ← hf] at hof
      have HOF := Lib.hid hof
      have HEC := Lib.hid hec
      have HF := Lib.hid hf
      have HEE := Lib.hid he
      have hBs : B ≤ wr.heap.size := by have := HB.out.size; have := HBW.out; omega
      have HBS := Lib.hid hBs
      clear hc ht hli he hf hec hof hBs hbl
      by_cases h0 : f = 0
      · subst h0
        go_wp2_with (first
          | (go_at_call 13; (with_reducible refine HOF.out.mono ?_); rintro x w1 ⟨rfl, hb1⟩; have HH1 := Lib.hid (held_en w1 e HEC.out); obtain ⟨w2, hw2⟩ : ∃ u, u = (w1.alloc (.cells (enc zen).toArray 25)).setRow w1.heap.size (enc e).toArray := ⟨_, rfl⟩; rw [← hw2] at HH1; have hk2 : Blk w2 w1.heap.size 25 (enc e).toArray := (by rw [hw2]; exact setRow_heap _ _ _ _ _ _ (Blk.new w1 _ _)); have hb2 : Below w1.heap.size w1 w2 := (by rw [hw2]; exact below_row' ((Below.refl _ _).alloc (Nat.le_refl _) _) (Nat.le_refl _) _); have HLD := Lib.hid (run_load_en hk2 HEC.out); have hbb := hb1.trans (hb2.mono hb1.size); obtain ⟨v3, w3, hrun, hO3, hB3⟩ := push_en (OwnK.next HO.out hbb) e HEC.out (by rw [pre_len L (by rw [HL.out]; omega)]; omega) (Nat.le_trans HBS.out hbb.size) 40; have HRUN := Lib.hid hrun; have HO3 := Lib.hid hO3; have HB3 := Lib.hid ((HB.out.trans (hbb.mono HBS.out)).trans hB3); clear hw2 hk2 hb2 hb1 hbb hrun hO3 hB3)
          | ((with_reducible refine step_store_run (t := 25) (x := .tmp 7) (y := .tmp 21) (p := ?spa1) (v := ?sva1) (w' := ?swa1) ?sga1 ?soa1 ?sxa1 ?sya1 ?sra1 ?sha1); (case sga1 => rfl); (case soa1 => rfl); (case sxa1 => rfl); (case sya1 => rfl); (case sra1 => exact HH1.out))
          | ((with_reducible refine step_load (t := 25) (x := .tmp 7) (p := ?lpa3) (v := ?lva3) ?lga3 ?loa3 ?lxa3 ?lra3 ?lha3); (case lga3 => rfl); (case loa3 => rfl); (case lxa3 => rfl); (case lra3 => exact HLD.out))
          | ((with_reducible refine step_build1e (x := .tmp 29) (e := ?bya4) ?bga4 ?boa4 ?bxa4 ?bla4 ?bha4); (case bga4 => rfl); (case boa4 => rfl); (case bxa4 => rfl); (case bla4 => exact HEC.out))
          | ((with_reducible refine step_append (s := .tmp 28) (x := .tmp 30) (t := 40) (vs := ?asa5) (vx := ?axa5) (v' := ?ava5) (w' := ?awa5) ?aga5 ?aoa5 ?apa5 ?aqa5 ?ara5 ?aha5); (case aga5 => rfl); (case aoa5 => rfl); (case apa5 => rfl); (case aqa5 => rfl); (case ara5 => exact HRUN.out)))
        go_roundg (n - (i + 1) + 1)
        case measure => omega
        case rel => exact ⟨i + 1, by go_num, hlt, by omega, Lib.hid (by rw [pre_snoc L (by rw [HL.out]; exact hlt), ← HEE.out]; exact HO3.out), HB3, Lib.hid (fun j hj => by
          rcases Nat.lt_or_ge j i with h | h
          · exact HE.out j h
          · obtain rfl : j = i := by omega
            exact HF.out.symm)⟩
      · have hd : (f != 0) = true := bne_iff_ne.2 h0
        have HA := Lib.hid (allE_stop L i (by rw [HL.out]; exact hlt) HE.out (by rw [← HF.out]; exact h0))
        clear h0
        go_wp2_with (first
          | (go_at_call 13; (with_reducible refine HOF.out.mono ?_); rintro x w1 ⟨rfl, hb1⟩; have HH1 := Lib.hid (held_en w1 e HEC.out); obtain ⟨w2, hw2⟩ : ∃ u, u = (w1.alloc (.cells (enc zen).toArray 25)).setRow w1.heap.size (enc e).toArray := ⟨_, rfl⟩; rw [← hw2] at HH1; have hb2 : Below w1.heap.size w1 w2 := (by rw [hw2]; exact below_row' ((Below.refl _ _).alloc (Nat.le_refl _) _) (Nat.le_refl _) _); have HBB := Lib.hid (hb1.trans (hb2.mono hb1.size)); clear hw2 hb2 hb1)
          | ((with_reducible refine step_store_run (t := 25) (x := .tmp 7) (y := .tmp 21) (p := ?spa2) (v := ?sva2) (w' := ?swa2) ?sga2 ?soa2 ?sxa2 ?sya2 ?sra2 ?sha2); (case sga2 => rfl); (case soa2 => rfl); (case sxa2 => rfl); (case sya2 => rfl); (case sra2 => exact HH1.out)))
        refine bodyPost_ret (results_t3 rfl _ _) rfl ?_
        refine ⟨u5, ?_, ?_, HB.out.trans (HBB.out.mono HBS.out)⟩
        · rw [HA.out, ← HF.out]; rfl
        · rw [HA.out]; exact OwnK.next HO.out HBB.out
    · obtain rfl : i = n := by omega
      have hltz : ¬ (i : Int) < (i : Int) := by omega
      have HA := Lib.hid (allE_all L (by rw [HL.out]; exact HE.out))
      clear hlt
      go_wp2_with fail
      refine bodyPost_ret (results_t3 rfl _ _) rfl ?_
      refine ⟨u5, ?_, ?_, HB.out⟩
      · rw [HA.out, HL.out]; rfl
      · rw [HA.out, HL.out]; exact HO.out
set_option maxHeartbeats 4000000 in
set_option maxRecDepth 100000 in
/-- two lists that are one -/
theorem same_eq {w : World} {va vb : Value} {L : List En} (hA : EnV w va L) (hB : EnV w vb L) (hL : okEs L) (hm : L.length ≤ 1000000) :
    Calls Tryd.prog 16 #[va, vb] w fun x w' => x = .returned (.bool true) ∧ Below w.heap.size w w' := by
  obtain ⟨ad, c1, rfl, hC1⟩ := hA
  obtain ⟨bd, c2, rfl, hC2⟩ := hB
  obtain ⟨n, hn⟩ : ∃ n, n = L.length := ⟨_, rfl⟩
  rw [← hn] at hC1 hC2 hm ⊢
  have HOK := Lib.hid (fun i (hi : i < n) => hL.get (i := i) (by rw [← hn]; exact hi))
  have HC1 := Lib.hid hC1
  have HC2 := Lib.hid hC2
  have n0 : (0 : Int) ≤ (n : Int) := Int.natCast_nonneg _
  clear hn hC1 hC2 hL
  go_enter Tryd.func16, Tryd.ntmps16
  go_wp2_with fail
  go_loopg [5] (n + 1) (fun gk s5 wr => ∃ i : Nat, s5 = .int .i64 i ∧ i ≤ n ∧ n - i < gk ∧ Hid (Below w.heap.size w wr))
  case atStart => exact ⟨0, rfl, Nat.zero_le _, by omega, Lib.hid (Below.refl _ _)⟩
  case round =>
    obtain ⟨i, rfl, hi, hgk, HB⟩ := hrel
    have i0 : (0 : Int) ≤ (i : Int) := Int.natCast_nonneg _
    by_cases hlt : i < n
    · have hltz : (i : Int) < (n : Int) := by omega
      obtain ⟨b, off, rfl, hbl, a0⟩ := HC1.out i hlt
      obtain ⟨b', off', rfl, hbl', a0'⟩ := HC2.out i hlt
      obtain ⟨e, he⟩ : ∃ e, e = L.getD i zen := ⟨_, rfl⟩
      have he32 : e.commit.length = 32 := by rw [he]; exact HOK.out i hlt
      rw [← he] at a0 a0'
      have hl1 : ∀ m, (Instr.loadAt 25 (.pointer (some ⟨b, off + i * 35, none⟩))).run Tryd.prog (wr.drewN m) = .ok (env e) (wr.drewN m) := fun m => run_load_at (fun j u hj => (HB.out.cell (p := ⟨b, off + i * 35 + j, none⟩) hbl).trans (a0 j u hj)) he32
      have hl2 : ∀ m, (Instr.loadAt 25 (.pointer (some ⟨b', off' + i * 35, none⟩))).run Tryd.prog (wr.drewN m) = .ok (env e) (wr.drewN m) := fun m => run_load_at (fun j u hj => (HB.out.cell (p := ⟨b', off' + i * 35 + j, none⟩) hbl').trans (a0' j u hj)) he32
      have hne : ∀ u : World, (binOp .neq 25 (env e) (env e)).run Tryd.prog u = .ok (.bool false) u := fun u => by rw [neq_ens u e e he32 he32]; simp
      have hgd : ∀ u : World, (eqGuard .neq 25 (.tmp 26) (.tmp 30) (env e) (env e)).run Tryd.prog u = .ok () u := fun u => run_eqGuard_agg u .neq 25 (.tmp 26) (.tmp 30) _ _ Tryd.eqGuardType25
      have HNE := Lib.hid hne
      have HGD := Lib.hid hgd
      clear he a0 a0' hne hgd hbl hbl'
      go_upto_region 6 with fail
      refine wp_region_quiet_lit (by kernel_rfl) (by kernel_rfl) ?_
      quiet_step (fail)
      quiet_step (fail)
      quiet_step (fail)
      refine quiet_load rfl rfl rfl (hl1) ?_
      (try simp only [Act.put, List.setIfInBounds_toArray, List.set_cons_zero, List.set_cons_succ])
      quiet_step (fail)
      quiet_step (fail)
      quiet_step (fail)
      refine quiet_load rfl rfl rfl (hl2) ?_
      (try simp only [Act.put, List.setIfInBounds_toArray, List.set_cons_zero, List.set_cons_succ])
      refine quiet_bin rfl rfl rfl rfl HGD.out HNE.out ?_
      (try simp only [Act.put, List.setIfInBounds_toArray, List.set_cons_zero, List.set_cons_succ])
      refine wpQuiet_nil ?_
      rintro _ ⟨nq, rfl⟩
      go_wp2_with fail
      go_roundg (n - i)
      case measure => omega
      case rel => exact ⟨i + 1, by go_num, hlt, by omega, Lib.hid (below_drewN HB.out _)⟩
    · have hlt' : ¬ (i : Int) < (n : Int) := by omega
      go_wp2_with fail
      go_ret
      exact ⟨rfl, HB.out⟩
end Go.Proofs.YtbhkegdohiekfaaDoor.ent
