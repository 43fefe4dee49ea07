/-
  petrelref06.Set, Is.
  petrelref07.Check: what it stands on.
  An operation that came in.
  petrelref07: an id's bytes.
-/
import Derived.Test.YtmaolmogccknbaaDoorIdsw
import Derived.Test.YtmaolmogccknbaaDoorOpr
import Derived.BigQuiet
import Derived.Deep.QuietTactic
import Derived.Test.YtmaolmogccknbaaDoorOpenid
import Derived.Test.YtmaolmogccknbaaDoorOpi
namespace Go.Proofs.YtmaolmogccknbaaDoor.ids
open Go.RowKit Go.Proofs.YtmaolmogccknbaaDoor.mem Go.Proofs.YtmaolmogccknbaaDoor.sha

theorem Got.nil (w : World) (F : Nat → Prop) : Got w F (.slice none 0 0) [] :=
  ⟨⟨okIds.nil, Nat.zero_le _, none, 0, rfl, Nat.le_refl _, Nat.zero_le _, fun _ => rfl, (fun a h => by cases h), .inl rfl⟩, fun b off n c e => by cases e⟩
theorem Got.mono {w : World} {F G : Nat → Prop} {v : Value} {L : List Id} (h : Got w F v L) (hFG : ∀ k, F k → G k) : Got w G v L := ⟨h.1, fun b off n c e => hFG b (h.2 b off n c e)⟩
theorem Got.next {w w' : World} {F : Nat → Prop} {v : Value} {L : List Id} (h : Got w F v L) (hb : Below w.heap.size w w') : Got w' F v L := ⟨h.1.next hb, h.2⟩
theorem take_fold (L : List Id) (k : Nat) (h : k < L.length) (A : List Id) : (L.take (k + 1)).foldl withL A = withL ((L.take k).foldl withL A) (L.getD k []) := by
  rw [List.take_succ_eq_append_getElem h, List.foldl_append, List.getD_eq_getElem?_getD, List.getElem?_eq_getElem h]
  rfl

set_option maxHeartbeats 1000000 in
set_option maxRecDepth 100000 in
theorem rset_any (L : List Id) (ad : Option Addr) (n cap : Nat) (w : World) (hL : RdV w (.slice ad n cap) L) (hmax : L.length < 500000) :
    Calls Tryd.prog 81 #[.slice ad n cap] w fun e w' => ∃ v, e = .returned v ∧ Got w' (w.heap.size ≤ ·) v (setL L) ∧ Below w.heap.size w w' := by
  have hn := hL.len
  subst hn
  have HR := Lib.hid hL
  have HOK := Lib.hid hL.ok
  clear hL
  go_enter Tryd.func81, Tryd.ntmps81
  go_wp2_with fail
  go_loopw [3, 4] (fun vo i wr => ∃ k : Nat, k ≤ L.length ∧ i = .int .i64 k ∧ Got wr (w.heap.size ≤ ·) vo ((L.take k).foldl withL []) ∧ Below w.heap.size w wr) (fun _ i _ => L.length - (intOf i).toNat)
  case atStart => exact ⟨0, Nat.zero_le _, rfl, Got.nil _ _, Below.refl _ _⟩
  case round =>
    obtain ⟨k, hk, rfl, hG, hB⟩ := hrel
    have k0 : (0 : Int) ≤ (k : Int) := Int.natCast_nonneg _
    have HG := Lib.hid hG
    have HB := Lib.hid hB
    by_cases hlt : k < L.length
    · have kI : (k : Int) < (L.length : Int) := by omega
      obtain ⟨b, off, rfl, -, -, -⟩ := HR.out.load hlt
      have hld := (HR.out.next hB).load_y hlt rfl
      have hx := HOK.out.get hlt
      have HT := Lib.hid (take_fold L k hlt [])
      obtain ⟨y, hy⟩ : ∃ y, y = L.getD k [] := ⟨_, rfl⟩
      rw [← hy] at hld hx HT
      obtain ⟨ad2, cap2, rfl⟩ := hG.1.form
      have hlen := foldl_with_len (L.take k) []
      obtain ⟨A, hA⟩ : ∃ A, A = (L.take k).foldl withL [] := ⟨_, rfl⟩
      rw [← hA] at HG HT hlen ⊢
      have hAm : A.length < 1000000 := by rw [List.length_nil, List.length_take] at hlen; omega
      have HC := Lib.hid (rwith_any A y ad2 A.length cap2 _ HG.out.1 hx hAm)
      clear hy hA hlen hG hB
      go_wp2_with (first
        | ((with_reducible refine step_load (t := 23) (x := .tmp 14) (p := ?lps1) (v := ?lvs1) ?lgs1 ?los1 ?lxs1 ?lrs1 ?lhs1); (case lgs1 => rfl); (case los1 => rfl); (case lxs1 => rfl); (case lrs1 => exact hld))
        | (go_at_call 107; with_reducible refine HC.out.mono ?_; rintro e w2 ⟨v2, rfl, hG2, hB2⟩))
      go_roundw
      case rel =>
        refine ⟨k + 1, hlt, by push_cast; rfl, ?_, HB.out.trans (hB2.mono HB.out.size)⟩
        rw [HT.out]
        exact hG2.mono fun j hj => by
          rcases hj with hj | ⟨off, e⟩
          · exact Nat.le_trans HB.out.size hj
          · exact HG.out.2 j off A.length cap2 (by rw [e])
      case measure => simp [intOf]; omega
    · obtain rfl : k = L.length := by omega
      clear hG hB
      go_wp2_with fail
      go_ret
      have := HG.out
      rw [List.take_length] at this
      exact ⟨_, rfl, this, HB.out⟩

set_option maxHeartbeats 1000000 in
theorem ris_any (L : List Id) (ad : Option Addr) (n cap : Nat) (w : World) (hL : RdV w (.slice ad n cap) L) (hmax : L.length < 500000) :
    Calls Tryd.prog 50 #[.slice ad n cap] w fun e w' => e = .returned (.bool (L == setL L)) ∧ Below w.heap.size w w' := by
  have HR := Lib.hid hL
  have HS := Lib.hid (rset_any L ad n cap w hL hmax)
  clear hL
  go_enter Tryd.func50, Tryd.ntmps50
  go_wp2_with (go_at_call 81; with_reducible refine HS.out.mono ?_; rintro e w2 ⟨v2, rfl, hG2, hB2⟩)
  obtain ⟨ad2, cap2, rfl⟩ := hG2.1.form
  refine (rsame_any L (setL L) ad ad2 n cap _ cap2 w2 (HR.out.next hB2) hG2.1).mono ?_
  rintro e w3 ⟨rfl, m, rfl⟩
  go_wp2_with fail
  go_ret
  exact ⟨rfl, below_drewN hB2 m⟩
end Go.Proofs.YtmaolmogccknbaaDoor.ids

namespace Go.Proofs.YtmaolmogccknbaaDoor.opn
open Go.RowKit Go.Proofs.YtmaolmogccknbaaDoor.mem Go.Proofs.YtmaolmogccknbaaDoor.sha Go.Proofs.YtmaolmogccknbaaDoor.ids

def rise (L : List Id) : Bool := L == setL L
/-- an operation as a value, its refs as they lie -/
def opc (o : Opn) (v : Value) : List Value := [.int .i64 o.k, .int .i64 o.n, .string (oct.tx o.key), .string (oct.tx o.val)] ++ (bv o.ref ++ [v])
def opv (o : Opn) (v : Value) : Value := .agg (opc o v).toArray

structure OpBlk (w : World) (S : Nat) (o : Opn) (v : Value) : Prop where
  k : w.cell? ⟨S, 0, none⟩ = some (.int .i64 o.k)
  n : w.cell? ⟨S, 1, none⟩ = some (.int .i64 o.n)
  key : w.cell? ⟨S, 2, none⟩ = some (.string (oct.tx o.key))
  val : w.cell? ⟨S, 3, none⟩ = some (.string (oct.tx o.val))
  ref : ∀ n, (Instr.loadAt 23 (.pointer (some ⟨S, 4, none⟩))).run Tryd.prog (w.drewN n) = .ok (idv o.ref) (w.drewN n)
  refs : w.cell? ⟨S, 36, none⟩ = some v
theorem OpBlk.of {w : World} {S : Nat} {t : TypeId} {o : Opn} {v : Value} (h : Blk w S t (opc o v).toArray) (hr : o.ref.length = 32) : OpBlk w S o v := by
  have hc : ∀ j, w.cell? ⟨S, j, none⟩ = (opc o v)[j]? := fun j => by rw [h.cell, List.getElem?_toArray]
  refine ⟨hc 0, hc 1, hc 2, hc 3, fun n => ?_, ?_⟩
  · refine run_load_mid (w.drewN n) S 4 32 23 5 (bv o.ref) (fun j u hu => ?_) Tryd.underlying23 (by rw [info_id', bv_length, hr])
    have hj : j < (bv o.ref).length := (List.getElem?_eq_some_iff.1 hu).1
    show w.cell? ⟨S, 4 + j, none⟩ = some u
    rw [hc]
    unfold opc
    rw [List.getElem?_append_right (by simp), show 4 + j - ([Value.int .i64 o.k, .int .i64 o.n, .string (oct.tx o.key), .string (oct.tx o.val)] : List Value).length = j by simp, List.getElem?_append_left hj]
    exact hu
  · rw [hc]
    unfold opc
    rw [List.getElem?_append_right (by simp), List.getElem?_append_right (by simp [bv_length, hr])]
    simp [bv_length, hr]

theorem in_lit (p : ByteArray) (c : UInt8) (n : Int) (hn : B c = n) (b : Bool) (hb : p.data.toList.contains c = b) (hs : p.size ≤ 10) (u : World) :
    Calls Tryd.prog 49 #[.string p, .int .u8 n] u fun e w' => e = .returned (.bool b) ∧ u = w' := by
  have := in_any p c u (by omega)
  rw [hn, hb] at this
  exact this
theorem tx_empty (l : List UInt8) (h : l = []) : (oct.tx l).toList.isEmpty = true := by
  subst h
  rw [ByteArray.toList_eq, oct.tx_list]
  rfl
theorem tx_nonempty (l : List UInt8) (h : l ≠ []) : (oct.tx l).toList.isEmpty = false := by
  rw [ByteArray.toList_eq, oct.tx_list]
  cases l with
  | nil => exact absurd rfl h
  | cons a l => rfl
/-- something is not zero that the kind has not -/
def bad (o : Opn) : Prop := (Part.N ∉ has o.k ∧ o.n ≠ 0) ∨ (Part.K ∉ has o.k ∧ o.key ≠ []) ∨ (Part.V ∉ has o.k ∧ o.val ≠ []) ∨ (Part.R ∉ has o.k ∧ o.ref ≠ zid) ∨ (Part.S ∉ has o.k ∧ o.refs ≠ [])
theorem check_bad {r : List Id → Bool} {o : Opn} (h : has o.k ≠ []) (hb : bad o) : check r o = 4 := by
  unfold bad at hb; unfold check; rw [if_neg h, if_pos hb]
theorem check_long {r : List Id → Bool} {o : Opn} (h : has o.k ≠ []) (hb : ¬ bad o) (hl : 16 < o.key.length ∨ 16 < o.val.length) : check r o = 3 := by
  unfold bad at hb; unfold check; rw [if_neg h, if_neg hb, if_pos hl]
theorem check_range {r : List Id → Bool} {o : Opn} (h : has o.k ≠ []) (hb : ¬ bad o) (hl : ¬ (16 < o.key.length ∨ 16 < o.val.length)) (hn : 2147483648 ≤ o.n ∨ o.n < -2147483648 ∨ (o.k = 4 ∧ o.n < 0)) : check r o = 5 := by
  unfold bad at hb; unfold check; rw [if_neg h, if_neg hb, if_neg hl, if_pos hn]
theorem check_full {r : List Id → Bool} {o : Opn} (h : has o.k ≠ []) (hb : ¬ bad o) (hl : ¬ (16 < o.key.length ∨ 16 < o.val.length)) (hn : ¬ (2147483648 ≤ o.n ∨ o.n < -2147483648 ∨ (o.k = 4 ∧ o.n < 0))) (hr : 8 < o.refs.length) : check r o = 6 := by
  unfold bad at hb; unfold check; rw [if_neg h, if_neg hb, if_neg hl, if_neg hn, if_pos hr]
theorem check_rise {r : List Id → Bool} {o : Opn} (h : has o.k ≠ []) (hb : ¬ bad o) (hl : ¬ (16 < o.key.length ∨ 16 < o.val.length)) (hn : ¬ (2147483648 ≤ o.n ∨ o.n < -2147483648 ∨ (o.k = 4 ∧ o.n < 0))) (hr : ¬ 8 < o.refs.length) : check r o = if r o.refs = false then 4 else 0 := by
  unfold bad at hb; unfold check; rw [if_neg h, if_neg hb, if_neg hl, if_neg hn, if_neg hr]
end Go.Proofs.YtmaolmogccknbaaDoor.opn

namespace Go.Proofs.YtmaolmogccknbaaDoor.kit
open Go.ChangeShapes Go.WideShapes Go.ChangeAt Go.RowKit Go.Proofs.YtmaolmogccknbaaDoor.sha Go.Proofs.YtmaolmogccknbaaDoor.ids Go.Proofs.YtmaolmogccknbaaDoor.opn

theorem cells_op : Tryd.prog.cellsOf 26 = 37 := by kernel_rfl
theorem one_int : Tryd.prog.cellsOf 3 = 1 := by kernel_rfl
theorem one_str : Tryd.prog.cellsOf 9 = 1 := by kernel_rfl
theorem one_ids : Tryd.prog.cellsOf 24 = 1 := by kernel_rfl
theorem cut_at (l : List Value) (n m : Nat) : l.drop n = (l.drop n).take m ++ l.drop (n + m) := by
  rw [← List.drop_drop, List.take_append_drop]
set_option maxRecDepth 100000 in
theorem op_of_trod {H : Type} {enc : TypeId × Value → H} {W : World} {fuel : Nat} {cs0 : List Value} {x : DataW H × List MemPlace}
    (hf : DataW.trod enc Tryd.prog W 0 (fun _ => true) true fuel 26 cs0 = some x) (hsz : ∀ n ∈ DataW.weights Tryd.prog 26 x.1, n ≤ reachBytes) :
    ∃ (o : Opn) (v : Value), cs0 = opc o v ∧ o.ref.length = 32 ∧ RdV W v o.refs ∧ o.key.length ≤ 140737488351232 ∧ o.val.length ≤ 140737488351232 := by
  obtain ⟨xs, n, _, hx, hlen, hn, hff⟩ := DataW.trod_struct Tryd.underlying26 hf
  rw [cells_op] at hlen
  have h0 := hff 0 _ rfl
  have h1 := hff 1 _ rfl
  have h2 := hff 2 _ rfl
  have h3 := hff 3 _ rfl
  have h4 := hff 4 _ rfl
  have h5 := hff 5 _ rfl
  have hxs : xs.length = 6 := hn
  have e : ∀ i, i < 6 → ∃ y, xs[i]? = some y := fun i hi => ⟨_, List.getElem?_eq_getElem (by omega)⟩
  obtain ⟨y0, k0⟩ := e 0 (by decide)
  obtain ⟨y1, k1⟩ := e 1 (by decide)
  obtain ⟨y2, k2⟩ := e 2 (by decide)
  obtain ⟨y3, k3⟩ := e 3 (by decide)
  obtain ⟨y4, k4⟩ := e 4 (by decide)
  obtain ⟨y5, k5⟩ := e 5 (by decide)
  rw [k0] at h0
  rw [k1] at h1
  rw [k2] at h2
  rw [k3] at h3
  rw [k4] at h4
  rw [k5] at h5
  replace h0 : DataW.trod enc Tryd.prog W 0 (fun _ => true) true n 3 ((cs0.drop 0).take 1) = some y0 := one_int ▸ h0
  replace h1 : DataW.trod enc Tryd.prog W 0 (fun _ => true) true n 3 ((cs0.drop 1).take 1) = some y1 := one_int ▸ h1
  replace h2 : DataW.trod enc Tryd.prog W 0 (fun _ => true) true n 9 ((cs0.drop 2).take 1) = some y2 := one_str ▸ h2
  replace h3 : DataW.trod enc Tryd.prog W 0 (fun _ => true) true n 9 ((cs0.drop 3).take 1) = some y3 := one_str ▸ h3
  replace h4 : DataW.trod enc Tryd.prog W 0 (fun _ => true) true n 23 ((cs0.drop 4).take 32) = some y4 := cells_id ▸ h4
  replace h5 : DataW.trod enc Tryd.prog W 0 (fun _ => true) true n 24 ((cs0.drop 36).take 1) = some y5 := one_ids ▸ h5
  have hw : ∀ j t d, (Tryd.prog.types.size = Tryd.prog.types.size) → ([3, 3, 9, 9, 23, 24] : List TypeId)[j]? = some t → (xs.map (·.1))[j]? = some d → ∀ n ∈ DataW.weights Tryd.prog t d, n ≤ reachBytes := fun j t d _ ht hd n hn => hsz n (by
    rw [hx]
    simp only [DataW.weights, Tryd.underlying26]
    exact DataW.weights_mem_each (j := j) (t := t) (d := d) ht hd _ hn)
  obtain ⟨k, e0, _, _⟩ := DataW.trod_int Tryd.underlying3 h0
  obtain ⟨nn, e1, _, _⟩ := DataW.trod_int Tryd.underlying3 h1
  obtain ⟨ks, e2, e2', _⟩ := DataW.trod_string Tryd.underlying9 h2
  obtain ⟨vs, e3, e3', _⟩ := DataW.trod_string Tryd.underlying9 h3
  obtain ⟨y, hy, e4⟩ := id_of_trod h4
  obtain ⟨v, L, e5, hR⟩ := ids_of_trod h5 (hw 5 _ _ rfl rfl (by rw [List.getElem?_map, k5]; rfl))
  refine ⟨⟨k, nn, ks.data.toList, vs.data.toList, y, L⟩, v, ?_, hy, hR, ?_, ?_⟩
  · have c : cs0 = cs0.drop 0 := rfl
    rw [c, cut_at cs0 0 1, cut_at cs0 (0 + 1) 1, cut_at cs0 (0 + 1 + 1) 1, cut_at cs0 (0 + 1 + 1 + 1) 1, cut_at cs0 (0 + 1 + 1 + 1 + 1) 32, cut_at cs0 (0 + 1 + 1 + 1 + 1 + 32) 1, List.drop_of_length_le (i := 0 + 1 + 1 + 1 + 1 + 32 + 1) (by omega)]
    unfold opc
    rw [oct.tx_eta, oct.tx_eta]
    show List.take 1 (List.drop 0 cs0) ++ (List.take 1 (List.drop 1 cs0) ++ (List.take 1 (List.drop 2 cs0) ++ (List.take 1 (List.drop 3 cs0) ++ (List.take 32 (List.drop 4 cs0) ++ (List.take 1 (List.drop 36 cs0) ++ []))))) = _
    rw [e0, e1, e2, e3, e4, e5]
    rfl
  · have := hw 2 _ _ rfl rfl (by rw [List.getElem?_map, k2]; rfl) ks.data.toList.length (by rw [e2']; simp [DataW.weights])
    exact this
  · have := hw 3 _ _ rfl rfl (by rw [List.getElem?_map, k3]; rfl) vs.data.toList.length (by rw [e3']; simp [DataW.weights])
    exact this
set_option maxRecDepth 100000 in
theorem open_op {H : Type} {enc : TypeId × Value → H} {W : World} {base : Nat} {ts : List TypeId} {ds : List (DataW H)} {j : Nat} {v : Value} {d : DataW H} {p : List MemPlace}
    (hv : Value.okWide Tryd.prog W .any base 26 v) (h : DataW.Trod enc Tryd.prog W 0 (fun _ => true) true 26 v d p)
    (hsz : (DataW.weightsEach Tryd.prog ts ds).all (· ≤ reachBytes) = true) (htj : ts[j]? = some 26) (hdj : ds[j]? = some d) :
    ∃ (o : Opn) (u : Value), v = opv o u ∧ o.ref.length = 32 ∧ RdV W u o.refs ∧ o.key.length ≤ 140737488351232 ∧ o.val.length ≤ 140737488351232 := by
  obtain ⟨cs, rfl, _⟩ := okWide_struct Tryd.underlying26 hv
  obtain ⟨fuel, hf⟩ := h
  obtain ⟨o, u, hc, h1, h2, h3, h4⟩ := op_of_trod hf fun n hn => by
    have h1 := List.all_eq_true.1 hsz _ (DataW.weights_mem_each htj hdj _ hn)
    simpa using h1
  refine ⟨o, u, ?_, h1, h2, h3, h4⟩
  simp only [Value.cells] at hc
  unfold opv
  rw [← hc]
end Go.Proofs.YtmaolmogccknbaaDoor.kit

namespace Go.Proofs.YtmaolmogccknbaaDoor.opn
open Go.RowKit Go.Proofs.YtmaolmogccknbaaDoor.mem Go.Proofs.YtmaolmogccknbaaDoor.sha Go.Proofs.YtmaolmogccknbaaDoor.ids

theorem bv_step (x : List UInt8) (k : Nat) (h : k < x.length) : bv (x.take (k + 1)) = bv (x.take k) ++ [.int .u8 (B (x.getD k 0))] := by
  rw [List.take_succ_eq_append_getElem h]
  unfold bv
  rw [List.map_append, List.getD_eq_getElem?_getD, List.getElem?_eq_getElem h]
  rfl

set_option maxHeartbeats 2000000 in
set_option maxRecDepth 100000 in
theorem raw_any (x : List UInt8) (w : World) (hx : x.length = 32) : Calls Tryd.prog 43 #[idv x] w fun e w' => e = .returned (.string (oct.tx x)) ∧ Below w.heap.size w w' := by
  obtain ⟨w1, hw1⟩ : ∃ u, u = w.alloc (.cells (bv x).toArray 23) := ⟨_, rfl⟩
  obtain ⟨S, hS⟩ : ∃ S, S = w.heap.size := ⟨_, rfl⟩
  have hX : Blk w1 S 23 (bv x).toArray := by rw [hw1, hS]; exact Blk.new w _ _
  have hB : Below w.heap.size w w1 := by rw [hw1]; exact (Below.refl _ _).alloc (Nat.le_refl _) _
  have HX1 := Lib.hid hX
  have HB1 := Lib.hid hB
  have HSS := Lib.hid hS
  have HW := Lib.hid hw1
  clear hX hB hw1 hS
  unfold idv
  go_enter Tryd.func43, Tryd.ntmps43
  go_upto_region 3 with fail
  refine wp_at HW.out.symm ?_
  rw [← HSS.out]
  clear HW
  go_loopw [3, 4] (fun vo i wr => ∃ k : Nat, k ≤ 32 ∧ i = .int .i64 k ∧ Owns wr (S < ·) vo k (bv (x.take k)) ∧ Blk wr S 23 (bv x).toArray ∧ Below w.heap.size w wr) (fun _ i _ => 32 - (intOf i).toNat)
  case atStart => exact ⟨0, by decide, rfl, Owns.nil _ _, HX1.out, HB1.out⟩
  case round =>
    clear HX1 HB1
    obtain ⟨k, hk, rfl, hO, hX, hB⟩ := hrel
    obtain ⟨ad, m, cc, rfl⟩ := hO.form
    have HO := Lib.hid hO
    have HXX := Lib.hid hX
    have HB := Lib.hid hB
    have k0 : (0 : Int) ≤ (k : Int) := Int.natCast_nonneg _
    by_cases hlt : k < 32
    · have k1 : (k : Int) < 32 := by omega
      have hc : wr.cell? ⟨S, k, none⟩ = some (.int .u8 (B (x.getD k 0))) := by
        rw [hX.cell, List.getElem?_toArray]
        exact bv_get _ _ (by rw [hx]; exact hlt)
      have HT := Lib.hid (bv_step x k (by rw [hx]; exact hlt))
      obtain ⟨y, hy⟩ : ∃ y, y = x.getD k 0 := ⟨_, rfl⟩
      rw [← hy] at hc HT
      have hn : New (S < ·) wr := fun j hj => Nat.lt_of_lt_of_le hX.lt hj
      have HN := Lib.hid hn
      clear hO hX hB hy hn
      go_wp2_with (at_builtin; go_must (refine wp_append_new rfl (.tmp 9) (.tmp 13) rfl (S < ·) _ _ k _ rfl HO.out [_] 1 rfl rfl (one1 _) (by omega) HN.out ?_); intro v1 w2 ho1 ht1; have HO1 := Lib.hid ho1; have HT1 := Lib.hid ht1; clear ho1 ht1)
      go_roundw
      case rel => exact ⟨k + 1, hlt, by push_cast; rfl, by rw [HT.out]; exact HO1.out, HXX.out.turn HT1.out (Nat.lt_irrefl S), HB.out.trans (HT1.out.below fun j hj => by have := HSS.out; have : S < j := hj; omega)⟩
      case measure => simp [intOf]; omega
    · obtain rfl : k = 32 := by omega
      have ht : x.take 32 = x := List.take_of_length_le (by rw [hx]; exact Nat.le_refl _)
      have hst : (convert 103 9 (.slice ad m cc)).run Tryd.prog wr = .ok (.string (oct.tx x)) wr := by
        rw [ht] at hO
        exact Owns.string (by rw [hx]; exact hO)
      clear hO hX hB hlt ht
      go_wp2_with fail
      go_ret
      exact ⟨rfl, HB.out⟩
end Go.Proofs.YtmaolmogccknbaaDoor.opn
