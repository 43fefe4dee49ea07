/-
  petrelref06.Set, Is.
  A whole id stored into a list of ids.
  Lists of ids in regions that draw their order: '[]Id{x}', append.
  Cells stored at once into a row.
  An id's box: nought, stored whole, told; held in a block of its own.
  A header in a block: how it lies, a part of it stored, the whole of it; a header as a result.
-/
import Derived.Test.YtpeneeddfgmjpaaGreatDoorIdsw
import Derived.Test.YtpeneeddfgmjpaaGreatDoorIda
import Derived.Test.YtpeneeddfgmjpaaGreatDoorIds
import Derived.Test.YtpeneeddfgmjpaaGreatDoorStepl
import Derived.Test.YtpeneeddfgmjpaaGreatDoorOpp
import Derived.Test.YtpeneeddfgmjpaaGreatDoorHdp
import Derived.Test.YtpeneeddfgmjpaaGreatDoorOctp
import Derived.BigQuiet
import Derived.Deep.QuietTactic
namespace Go.Proofs.YtpeneeddfgmjpaaGreatDoor.ids
open Go.RowKit Go.Proofs.YtpeneeddfgmjpaaGreatDoor.mem Go.Proofs.YtpeneeddfgmjpaaGreatDoor.sha

theorem Got.nil (w : World) (F : Nat → Prop) : Got w F (.slice none 0 0) [] :=
 ⟨⟨okIds.nil, Nat.zero_le _, none, 0, rfl, Nat.le_refl _, Nat.zero_le _, fun _ => rfl, (fun a h => by cases h), .inl rfl⟩, fun b off n c e => by cases e⟩
theorem Got.mono {w : World} {F G : Nat → Prop} {v : Value} {L : List Id} (h : Got w F v L) (hFG : ∀ k, F k → G k) : Got w G v L := ⟨h.1, fun b off n c e => hFG b (h.2 b off n c e)⟩
theorem Got.next {w w' : World} {F : Nat → Prop} {v : Value} {L : List Id} (h : Got w F v L) (hb : Below w.heap.size w w') : Got w' F v L := ⟨h.1.next hb, h.2⟩
theorem take_fold (L : List Id) (k : Nat) (h : k < L.length) (A : List Id) : (L.take (k + 1)).foldl withL A = withL ((L.take k).foldl withL A) (L.getD k []) := by
 rw [List.take_succ_eq_append_getElem h, List.foldl_append, List.getD_eq_getElem?_getD, List.getElem?_eq_getElem h]
 rfl

set_option maxHeartbeats 1000000 in
set_option maxRecDepth 100000 in
theorem rset_any (L : List Id) (ad : Option Addr) (n cap : Nat) (w : World) (hL : RdV w (.slice ad n cap) L) (hmax : L.length < 500000) :
  Calls Tryz.prog 56 #[.slice ad n cap] w fun e w' => ∃ v, e = .returned v ∧ Got w' (w.heap.size ≤ ·) v (setL L) ∧ Below w.heap.size w w' := by
 have hn := hL.len
 subst hn
 have HR := Lib.hid hL
 have HOK := Lib.hid hL.ok
 clear hL
 go_enter Tryz.func56, Tryz.ntmps56
 go_wp2_with fail
 go_loopw [3, 4] (fun vo i wr => ∃ k : Nat, k ≤ L.length ∧ i = .int .i64 k ∧ Got wr (w.heap.size ≤ ·) vo ((L.take k).foldl withL []) ∧ Below w.heap.size w wr) (fun _ i _ => L.length - (intOf i).toNat)
 case atStart => exact ⟨0, Nat.zero_le _, rfl, Got.nil _ _, Below.refl _ _⟩
 case round =>
  obtain ⟨k, hk, rfl, hG, hB⟩ := hrel
  have k0 : (0 : Int) ≤ (k : Int) := Int.natCast_nonneg _
  have HG := Lib.hid hG
  have HB := Lib.hid hB
  by_cases hlt : k < L.length
  ·
   have kI : (k : Int) < (L.length : Int) := by omega
   obtain ⟨b, off, rfl, -, -, -⟩ := HR.out.load hlt
   have hld := (HR.out.next hB).load_y hlt rfl
   have hx := HOK.out.get hlt
   have HT := Lib.hid (take_fold L k hlt [])
   obtain ⟨y, hy⟩ : ∃ y, y = L.getD k [] := ⟨_, rfl⟩
   rw [← hy] at hld hx HT
   obtain ⟨ad2, cap2, rfl⟩ := hG.1.form
   have hlen := foldl_with_len (L.take k) []
   obtain ⟨A, hA⟩ : ∃ A, A = (L.take k).foldl withL [] := ⟨_, rfl⟩
   rw [← hA] at HG HT hlen ⊢
   have hAm : A.length < 1000000 := by rw [List.length_nil, List.length_take] at hlen; omega
   have HC := Lib.hid (rwith_any A y ad2 A.length cap2 _ HG.out.1 hx hAm)
   clear hy hA hlen hG hB
   go_wp2_with (first
    | ((with_reducible refine step_load (t := 24) (x := .tmp 14) (p := ?lps1) (v := ?lvs1) ?lgs1 ?los1 ?lxs1 ?lrs1 ?lhs1); (case lgs1 => rfl); (case los1 => rfl); (case lxs1 => rfl); (case lrs1 => exact hld))
    | (go_at_call 31; with_reducible refine HC.out.mono ?_; rintro e w2 ⟨v2, rfl, hG2, hB2⟩))
   go_roundw
   case rel =>
    refine ⟨k + 1, hlt, by push_cast; rfl, ?_, HB.out.trans (hB2.mono HB.out.size)⟩
    rw [HT.out]
    exact hG2.mono fun j hj => by
     rcases hj with hj | ⟨off, e⟩
     ·
      exact Nat.le_trans HB.out.size hj
     ·
      exact HG.out.2 j off A.length cap2 (by rw [e])
   case measure => simp [intOf]; omega
  ·
   obtain rfl : k = L.length := by omega
   clear hG hB
   go_wp2_with fail
   go_ret
   have := HG.out
   rw [List.take_length] at this
   exact ⟨_, rfl, this, HB.out⟩

set_option maxHeartbeats 1000000 in
theorem ris_any (L : List Id) (ad : Option Addr) (n cap : Nat) (w : World) (hL : RdV w (.slice ad n cap) L) (hmax : L.length < 500000) :
  Calls Tryz.prog 34 #[.slice ad n cap] w fun e w' => e = .returned (.bool (L == setL L)) ∧ Below w.heap.size w w' := by
 have HR := Lib.hid hL
 have HS := Lib.hid (rset_any L ad n cap w hL hmax)
 clear hL
 go_enter Tryz.func34, Tryz.ntmps34
 go_wp2_with (go_at_call 56; with_reducible refine HS.out.mono ?_; rintro e w2 ⟨v2, rfl, hG2, hB2⟩)
 obtain ⟨ad2, cap2, rfl⟩ := hG2.1.form
 refine (rsame_any L (setL L) ad ad2 n cap _ cap2 w2 (HR.out.next hB2) hG2.1).mono ?_
 rintro e w3 ⟨rfl, m, rfl⟩
 go_wp2_with fail
 go_ret
 exact ⟨rfl, below_drewN hB2 m⟩
end Go.Proofs.YtpeneeddfgmjpaaGreatDoor.ids

namespace Go.Proofs.YtpeneeddfgmjpaaGreatDoor.ids
open Go.RowKit Go.Proofs.YtpeneeddfgmjpaaGreatDoor.mem Go.Proofs.YtpeneeddfgmjpaaGreatDoor.sha

def splice (cur : Array Value) (off : Nat) (ys : List Value) : Array Value := (cur.toList.take off ++ ys ++ cur.toList.drop (off + ys.length)).toArray
theorem splice_get (cur : Array Value) (off : Nat) (ys : List Value) (h : off + ys.length ≤ cur.size) (k : Nat) : (splice cur off ys)[k]? = if k < off then cur[k]? else if k < off + ys.length then ys[k - off]? else cur[k]? := by
 have hl : cur.toList.length = cur.size := Array.length_toList
 unfold splice
 rw [List.getElem?_toArray, List.append_assoc]
 have h1 : (cur.toList.take off).length = off := by rw [List.length_take]; omega
 by_cases a : k < off
 ·
  rw [if_pos a, List.getElem?_append_left (by omega), List.getElem?_take, if_pos a, Array.getElem?_toList]
 ·
  rw [if_neg a, List.getElem?_append_right (by omega), h1]
  by_cases b : k < off + ys.length
  ·
   rw [if_pos b, List.getElem?_append_left (by omega)]
  ·
   rw [if_neg b, List.getElem?_append_right (by omega), List.getElem?_drop, show off + ys.length + (k - off - ys.length) = k by omega, Array.getElem?_toList]
theorem splice_size (cur : Array Value) (off : Nat) (ys : List Value) (h : off + ys.length ≤ cur.size) : (splice cur off ys).size = cur.size := by
 have hl : cur.toList.length = cur.size := Array.length_toList
 unfold splice
 rw [List.size_toArray, List.length_append, List.length_append, List.length_take, List.length_drop]
 omega
theorem one_bvl (y : List UInt8) : ∀ v ∈ bv y, v.oneCell' = true := by
 intro v hv
 simp only [bv, List.mem_map] at hv
 obtain ⟨x, _, rfl⟩ := hv
 rfl
theorem run_store_mid {w : World} {g off : Nat} {cur : Array Value} {t : TypeId} (hg : w.heap[g]? = some (.cells cur t (0, 0))) (y : List UInt8) (hy : y.length = 32) (hfit : off + 32 ≤ cur.size) :
  (Instr.storeAt 24 (.pointer (some ⟨g, off, none⟩)) (.agg (bv y).toArray)).run Tryz.prog w = .ok () (w.setRow g (splice cur off (bv y))) := by
 have hlen : (bv y).length = 32 := by rw [bv_length, hy]
 have hst := run_storeCells_at Tryz.prog g off t (bv y) 0 cur w hg (by omega) (one_bvl y)
 obtain ⟨i, hi, _, hs, _⟩ := info_parts info_id
 have e : (bv y).toArray.size = 32 := by rw [List.size_toArray, hlen]
 simp only [Instr.storeAt, Instr.sureAddr, storeVar, sizeOf, typeInfo, Value.cells, Sem.run_bind, Sem.run_pure, Result.andThen_ok]
 simp [hi, hs, e, hst, splice]
theorem fl_set_get {L : List (List UInt8)} (hL : okIds L) {i : Nat} (hi : i < L.length) {y : List UInt8} (hy : y.length = 32) (k : Nat) : (fl (L.set i y))[k]? = if k < i * 32 then (fl L)[k]? else if k < i * 32 + 32 then (bv y)[k - i * 32]? else (fl L)[k]? := by
 have e : L.set i y = L.take i ++ y :: L.drop (i + 1) := List.set_eq_take_append_cons_drop.trans (by rw [if_pos hi])
 have hf : fl (L.set i y) = (fl L).take (i * 32) ++ (bv y ++ (fl L).drop ((i + 1) * 32)) := by
  rw [e, fl_append, fl, fl_take i hL, fl_drop (i + 1) hL]
 have hlen := fl_len hL
 have h1 : ((fl L).take (i * 32)).length = i * 32 := by rw [List.length_take, hlen]; omega
 have h2 : (bv y).length = 32 := by rw [bv_length, hy]
 rw [hf]
 by_cases a : k < i * 32
 ·
  rw [if_pos a, List.getElem?_append_left (by omega), List.getElem?_take, if_pos a]
 ·
  rw [if_neg a, List.getElem?_append_right (by omega), h1]
  by_cases b : k < i * 32 + 32
  ·
   rw [if_pos b, List.getElem?_append_left (by omega)]
  ·
   rw [if_neg b, List.getElem?_append_right (by omega), List.getElem?_drop, h2, show (i + 1) * 32 + (k - i * 32 - 32) = k by omega]
theorem okIds.set {L : List (List UInt8)} (h : okIds L) (i : Nat) {y : List UInt8} (hy : y.length = 32) : okIds (L.set i y) := fun z hz => by
 rcases List.mem_or_eq_of_mem_set hz with h1 | h1
 ·
  exact h z h1
 ·
  rw [h1]; exact hy

theorem OwnI.store {w : World} {F : Nat → Prop} {v : Value} {L : List (List UInt8)} (h : OwnI w F v L) {i : Nat} (hi : i < L.length) {y : List UInt8} (hy : y.length = 32) :
  ∃ b c w', v = .slice (some ⟨b, 0, none⟩) L.length c ∧ F b ∧ (Instr.storeAt 24 (.pointer (some ⟨b, i * 32, none⟩)) (.agg (bv y).toArray)).run Tryz.prog w = .ok () w' ∧ OwnI w' F v (L.set i y) ∧ Turn (· = b) w w' := by
 obtain ⟨hok, ⟨hxl, hrow⟩, hF⟩ := h
 rcases hrow with ⟨rfl, hn⟩ | ⟨g, cap, cur, rfl, hb, hg, hle, hcm, hcs, htake⟩
 ·
  omega
 have hlen := fl_len hok
 have hbl : (bv y).length = 32 := by rw [bv_length, hy]
 have hfit : i * 32 + 32 ≤ cur.size := by rw [hcs]; omega
 refine ⟨g, cap, _, rfl, hF g rfl, run_store_mid hg y hy hfit, ⟨hok.set i hy, ⟨by rw [fl_len (hok.set i hy)], .inr ⟨g, cap, _, by rw [List.length_set], Nat.zero_le _, setRow_heap w g cur _ _ _ hg, by rw [List.length_set]; exact hle, hcm, by rw [splice_size _ _ _ (by omega)]; exact hcs, ?_⟩⟩, fun k hk => hF k hk⟩, turn_row w g _⟩
 apply List.ext_getElem?
 intro k
 rw [List.getElem?_take, List.length_set, fl_set_get hok hi hy]
 have hcell : ∀ k, k < L.length * 32 → cur[k]? = (fl L)[k]? := fun k hk => by
  rw [← htake, List.getElem?_take, if_pos hk, Array.getElem?_toList]
 by_cases hk : k < L.length * 32
 ·
  rw [if_pos hk, Array.getElem?_toList, splice_get _ _ _ (by omega), hbl]
  by_cases a : k < i * 32
  ·
   rw [if_pos a, if_pos a]; exact hcell k hk
  ·
   rw [if_neg a, if_neg a]
   by_cases d : k < i * 32 + 32
   ·
    rw [if_pos d, if_pos d]
   ·
    rw [if_neg d, if_neg d]; exact hcell k hk
 ·
  rw [if_neg hk, if_neg (by omega), if_neg (by omega), List.getElem?_eq_none (by omega)]
/-- in a plain region -/
theorem step_store_at {ops : Array Oper} {rest : List Oper} {o : Oper} {a : Act} {w w' : World} {Q : Exit → Act → World → Prop} {x y : Operand} {p v : Value} (hg : o.guard = none) (ho : o.op = .store 24 x y) (hx : a.eval x = p) (hy : a.eval y = v)
  (hr : (Instr.storeAt 24 p v).run Tryz.prog w = .ok () w') (h : wpList Tryz.prog ops Q rest (a.put o.dst undef) w') : wpList Tryz.prog ops Q (o :: rest) a w := by
 refine wpList_plain hg fun K hK => ?_
 unfold Oper.wp execOp
 simp only [ho, hx, hy, Sem.run_bind, hr, Result.andThen_ok, Sem.run_pure]
 exact hK _ _ h
end Go.Proofs.YtpeneeddfgmjpaaGreatDoor.ids

namespace Go.Proofs.YtpeneeddfgmjpaaGreatDoor.ids
open Go.RowKit Go.Proofs.YtpeneeddfgmjpaaGreatDoor.mem Go.Proofs.YtpeneeddfgmjpaaGreatDoor.sha

theorem want_build1 {ops : Array Oper} {o : Oper} {a : Act} {w : World} {K : Act → World → Prop} {Q : Exit → Act → World → Prop} {E : Prop} {x : Operand} {y : List UInt8} (hg : o.guard = none)
  (ho : o.op = .buildSlice 22 1 #[(0, x)]) (hx : a.eval x = .agg (bv y).toArray) (hy : y.length = 32)
  (hK : K (a.put o.dst (.slice (some ⟨w.heap.size, 0, none⟩) 1 1)) (w.alloc (.cells (bv y).toArray 24))) : if Region.wanted o (yielded ops a.tmps) = true then Oper.wp Tryz.prog o a w K Q else E := by
 have hw : Region.wanted o (yielded ops a.tmps) = true := by simp [Region.wanted, hg]
 rw [if_pos hw]
 unfold Oper.wp execOp
 have hr := run_build1 w y hy
 simp only [ho, List.map_toArray, List.map_cons, List.map_nil, hx, Sem.run_bind, hr, Result.andThen_ok, Sem.run_pure]
 exact hK
/-- '[]Id{x}' as a list that reads -/
theorem RdV.one (w : World) (x : List UInt8) (hx : x.length = 32) : RdV (w.alloc (.cells (bv x).toArray 24)) (.slice (some ⟨w.heap.size, 0, none⟩) 1 1) [x] := by
 have := RdV.laid w [x] (fun y hy => by rw [List.mem_singleton.1 hy]; exact hx) (by simp)
 rw [fl_one] at this
 exact this
/-- one more -/
theorem run_append_one {w : World} {F : Nat → Prop} {v : Value} {L : List (List UInt8)} {x : List UInt8} (hown : OwnI w F v L) (hx : x.length = 32) (hL : L.length ≤ 1000000) (hn : New F w) (ty : TypeId) :
  ∃ v' w', (Builtin.append_ #[22, 22] ty #[v, .slice (some ⟨w.heap.size, 0, none⟩) 1 1]).run Tryz.prog (w.alloc (.cells (bv x).toArray 24)) = .ok v' w' ∧ OwnI w' F v' (L ++ [x]) ∧ Turn (fun k => v.ownBlock = some k ∨ w.heap.size ≤ k) w w' := by
 have ha : Turn (w.heap.size ≤ ·) w (w.alloc (.cells (bv x).toArray 24)) := (Turn.refl _ w).alloc (fun _ h => h) _
 have hs : (w.alloc (.cells (bv x).toArray 24)).heap.size = w.heap.size + 1 := by simp
 obtain ⟨v', w', hr, ho, ht⟩ := run_append_rd (hown.below ((Below.refl _ _).alloc (Nat.le_refl _) _)) (RdV.one w x hx) (by rw [List.length_singleton]; omega) (fun k hk => hn k (by rw [hs] at hk; omega)) ty
 exact ⟨v', w', hr, ho, (ha.mono fun k hk => .inr hk).trans (ht.mono fun k hk => hk.imp id fun h => by rw [hs] at h; omega)⟩
end Go.Proofs.YtpeneeddfgmjpaaGreatDoor.ids

namespace Go.Proofs.YtpeneeddfgmjpaaGreatDoor.ids
open Go.RowKit Go.Proofs.YtpeneeddfgmjpaaGreatDoor.mem Go.Proofs.YtpeneeddfgmjpaaGreatDoor.sha

theorem run_store_cells {w : World} {g off : Nat} {cur : Array Value} {t : TypeId} (hg : w.heap[g]? = some (.cells cur t (0, 0))) (ty : TypeId) (cs : List Value) (hi : (Tryz.prog.info? ty).map (·.size) = some cs.length) (h1 : ∀ u ∈ cs, u.oneCell' = true) (hfit : off + cs.length ≤ cur.size) :
  (Instr.storeAt ty (.pointer (some ⟨g, off, none⟩)) (.agg cs.toArray)).run Tryz.prog w = .ok () (w.setRow g (ids.splice cur off cs)) := by
 have hst := run_storeCells_at Tryz.prog g off t cs 0 cur w hg (by omega) h1
 cases hq : Tryz.prog.info? ty with
 | none => simp [hq] at hi
 | some i =>
  have hs : i.size = cs.length := by simpa [hq] using hi
  simp only [Instr.storeAt, Instr.sureAddr, storeVar, sizeOf, typeInfo, Value.cells, Sem.run_bind, Sem.run_pure, Result.andThen_ok]
  simp [hq, hs, hst, ids.splice]
theorem splice_all (cur : Array Value) (cs : List Value) (h : cs.length = cur.size) : ids.splice cur 0 cs = cs.toArray := by
 have hl : cur.toList.length = cur.size := Array.length_toList
 unfold ids.splice
 rw [List.take_zero, List.nil_append, Nat.zero_add, List.drop_of_length_le (by omega), List.append_nil]
theorem below_row' {B : Nat} {w0 w : World} {g : Nat} (hb : Below B w0 w) (hg : B ≤ g) (cs : Array Value) : Below B w0 (w.setRow g cs) := hb.trans ((turn_row w g cs).below fun j hj => by rw [hj]; exact hg)
end Go.Proofs.YtpeneeddfgmjpaaGreatDoor.ids

namespace Go.Proofs.YtpeneeddfgmjpaaGreatDoor.hdr
open Go.RowKit Go.Proofs.YtpeneeddfgmjpaaGreatDoor.mem Go.Proofs.YtpeneeddfgmjpaaGreatDoor.sha Go.Proofs.YtpeneeddfgmjpaaGreatDoor.ids
open Go.Proofs.YtpeneeddfgmjpaaGreatDoor.opn (zid)

theorem zid32 : zid.length = 32 := by simp [zid]
theorem run_build_zi (w : World) : (Instr.build 24 #[]).run Tryz.prog w = .ok (idv zid) w := by kernel_rfl
theorem run_store_idw {w : World} {R : Nat} {t : TypeId} {z y : List UInt8} (hb : Blk w R t (bv z).toArray) (hz : z.length = 32) (hy : y.length = 32) : (Instr.storeAt 24 (.pointer (some ⟨R, 0, none⟩)) (idv y)).run Tryz.prog w = .ok () (w.setRow R (bv y).toArray) := by
 have h := run_store_cells hb 24 (bv y) (off := 0) (by rw [info_id', bv_length, hy]) (one_bvl y) (by rw [List.size_toArray, bv_length, bv_length, hy, hz]; decide)
 rw [splice_all _ _ (by rw [List.size_toArray, bv_length, bv_length, hy, hz])] at h
 exact h
/-- an id that was told, held in a block of its own -/
def heldI (w : World) (y : List UInt8) : World := (w.alloc (.cells (bv zid).toArray 24)).setRow w.heap.size (bv y).toArray
theorem run_holdI (w : World) (y : List UInt8) (hy : y.length = 32) : (Instr.storeAt 24 (.pointer (some ⟨w.heap.size, 0, none⟩)) (idv y)).run Tryz.prog (w.alloc (.cells (bv zid).toArray 24)) = .ok () (heldI w y) :=
 run_store_idw (Blk.new w 24 (bv zid).toArray) zid32 hy
theorem heldI_blk (w : World) (y : List UInt8) : Blk (heldI w y) w.heap.size 24 (bv y).toArray := setRow_heap _ _ _ _ _ _ (Blk.new w 24 (bv zid).toArray)
theorem heldI_below (w : World) (y : List UInt8) : Below w.heap.size w (heldI w y) := below_row' ((Below.refl _ _).alloc (Nat.le_refl _) _) (Nat.le_refl _) _
theorem results_id {fn : Func} {p q : Tmp} (h : fn.results = #[.cell p 24, .tmp q]) (tmps : Array Value) (w : World) (g : Nat) (t : TypeId) (y : List UInt8)
  (hp : tmps.getD p undef = .pointer (some ⟨g, 0, none⟩)) (hg : Blk w g t (bv y).toArray) (hy : y.length = 32) :
  (results fn tmps).run Tryz.prog w = .ok (.tuple #[idv y, tmps.getD q undef]) w := by
 have hp' : tmps[p]?.getD undef = .pointer (some ⟨g, 0, none⟩) := by simpa using hp
 have hl := run_loadVar_row w g t 24 (bv y).toArray (0, 0) _ hg Tryz.underlying24 rfl (by rw [info_id']; simp [bv_length, hy])
 simp [results, h, hp', asAddr, hl, idv]
end Go.Proofs.YtpeneeddfgmjpaaGreatDoor.hdr

namespace Go.Proofs.YtpeneeddfgmjpaaGreatDoor.hdr
open Go.RowKit Go.Proofs.YtpeneeddfgmjpaaGreatDoor.mem Go.Proofs.YtpeneeddfgmjpaaGreatDoor.sha Go.Proofs.YtpeneeddfgmjpaaGreatDoor.ids
open Go.Proofs.YtpeneeddfgmjpaaGreatDoor.opn (b1 b2 b4 num txt idl byte rd rdN rdT rdI rdS rdL St Reads Stays endE zid mkId)

/-- a header as a value, its parents as they lie -/
def hdc (h : Hd) (v : Value) : List Value := [v, .int .i64 h.height, .string (oct.tx h.topic), .int .i64 h.author, .int .i64 h.seq, .int .i64 h.size] ++ bv h.commit
def hdv (h : Hd) (v : Value) : Value := .agg (hdc h v).toArray
def nv : Value := .slice none 0 0
theorem nv_one : nv.oneCell' = true := rfl
theorem zcom : zhd.commit.length = 32 := by simp [zhd, zid]
theorem hdc_len (h : Hd) (v : Value) (hr : h.commit.length = 32) : (hdc h v).length = 38 := by
 unfold hdc
 simp [bv_length, hr]
theorem hdc_size (h : Hd) (v : Value) (hr : h.commit.length = 32) : (hdc h v).toArray.size = 38 := by rw [List.size_toArray, hdc_len h v hr]
theorem info_hd : (Tryz.prog.info? 26).map (·.size) = some 38 := by kernel_rfl

structure HdBlk (w : World) (S : Nat) (h : Hd) (v : Value) : Prop where
 parents : w.cell? ⟨S, 0, none⟩ = some v
 height : w.cell? ⟨S, 1, none⟩ = some (.int .i64 h.height)
 topic : w.cell? ⟨S, 2, none⟩ = some (.string (oct.tx h.topic))
 author : w.cell? ⟨S, 3, none⟩ = some (.int .i64 h.author)
 seq : w.cell? ⟨S, 4, none⟩ = some (.int .i64 h.seq)
 size : w.cell? ⟨S, 5, none⟩ = some (.int .i64 h.size)
 commit : ∀ n, (Instr.loadAt 24 (.pointer (some ⟨S, 6, none⟩))).run Tryz.prog (w.drewN n) = .ok (idv h.commit) (w.drewN n)
theorem HdBlk.of {w : World} {S : Nat} {t : TypeId} {h : Hd} {v : Value} (hb : Blk w S t (hdc h v).toArray) (hr : h.commit.length = 32) : HdBlk w S h v := by
 have hc : ∀ j, w.cell? ⟨S, j, none⟩ = (hdc h v)[j]? := fun j => by rw [hb.cell, List.getElem?_toArray]
 refine ⟨hc 0, hc 1, hc 2, hc 3, hc 4, hc 5, fun n => ?_⟩
 refine run_load_mid (w.drewN n) S 6 32 24 5 (bv h.commit) (fun j u hu => ?_) Tryz.underlying24 (by rw [info_id', bv_length, hr])
 show w.cell? ⟨S, 6 + j, none⟩ = some u
 rw [hc]
 unfold hdc
 rw [List.getElem?_append_right (by simp), show 6 + j - ([v, Value.int .i64 h.height, .string (oct.tx h.topic), .int .i64 h.author, .int .i64 h.seq, .int .i64 h.size] : List Value).length = j by simp]
 exact hu
theorem agg_hd (w : World) : (isAgg 26).run Tryz.prog w = .ok true w := by
 unfold isAgg
 rw [Sem.run_bind, run_underlying Tryz.underlying26 w]
 rfl
/-- a header out of a block -/
theorem run_load_hd {w : World} {S : Nat} {t : TypeId} {h : Hd} {v : Value} (hb : Blk w S t (hdc h v).toArray) (hr : h.commit.length = 32) : (Instr.loadAt 26 (.pointer (some ⟨S, 0, none⟩))).run Tryz.prog w = .ok (hdv h v) w := by
 have hl : (loadCells ⟨S, 0, none⟩ (hdc h v).length).run Tryz.prog w = .ok (hdc h v).toArray w :=
  run_loadCells_list (P := Tryz.prog) w ⟨S, 0, none⟩ (hdc h v) (fun j u hu => by
   rw [Addr.add_lit, Nat.zero_add, hb.cell, List.getElem?_toArray]
   exact hu)
 have hi := info_hd
 cases hq : Tryz.prog.info? 26 with
 | none => simp [hq] at hi
 | some i =>
  have hs : i.size = (hdc h v).length := by rw [hdc_len h v hr]; simpa [hq] using hi
  simp [Instr.loadAt, Instr.sureAddr, loadVar, Sem.run_bind, agg_hd, sizeOf, typeInfo, hq, hs, hl, hdv]
theorem hdc_one {h : Hd} {v : Value} (hv : v.oneCell' = true) : ∀ u ∈ hdc h v, u.oneCell' = true := by
 intro u hu
 unfold hdc at hu
 rcases List.mem_append.1 hu with a | a
 ·
  simp only [List.mem_cons, List.not_mem_nil, or_false] at a
  rcases a with rfl | rfl | rfl | rfl | rfl | rfl <;> first | exact hv | rfl
 ·
  exact one_bvl _ u a
/-- the whole of one -/
theorem run_store_hd {w : World} {S : Nat} {t : TypeId} {cur : Array Value} (hb : Blk w S t cur) (hc : cur.size = 38) (h : Hd) (v : Value) (hr : h.commit.length = 32) (hv : v.oneCell' = true) :
  (Instr.storeAt 26 (.pointer (some ⟨S, 0, none⟩)) (hdv h v)).run Tryz.prog w = .ok () (w.setRow S (hdc h v).toArray) := by
 have := run_store_cells hb 26 (hdc h v) (off := 0) (by rw [info_hd, hdc_len h v hr]) (hdc_one hv) (by rw [hdc_len h v hr, hc]; exact Nat.le_refl _)
 rw [splice_all _ _ (by rw [hdc_len h v hr, hc])] at this
 exact this
section
variable {w : World} {S : Nat} {t : TypeId} {h : Hd} {v : Value}
theorem hdm_parents (hb : Blk w S t (hdc h v).toArray) (L : List (List UInt8)) (u : Value) : Blk (w.setCell ⟨S, 0, none⟩ u) S t (hdc { h with parents := L } u).toArray := by
 have := hb.set_ 0 u
 rw [List.setIfInBounds_toArray] at this
 exact this
theorem hdm_height (hb : Blk w S t (hdc h v).toArray) (n : Int) : Blk (w.setCell ⟨S, 1, none⟩ (.int .i64 n)) S t (hdc { h with height := n } v).toArray := by
 have := hb.set_ 1 (.int .i64 n)
 rw [List.setIfInBounds_toArray] at this
 exact this
theorem hdm_topic (hb : Blk w S t (hdc h v).toArray) (l : List UInt8) : Blk (w.setCell ⟨S, 2, none⟩ (.string (oct.tx l))) S t (hdc { h with topic := l } v).toArray := by
 have := hb.set_ 2 (.string (oct.tx l))
 rw [List.setIfInBounds_toArray] at this
 exact this
theorem hdm_author (hb : Blk w S t (hdc h v).toArray) (n : Int) : Blk (w.setCell ⟨S, 3, none⟩ (.int .i64 n)) S t (hdc { h with author := n } v).toArray := by
 have := hb.set_ 3 (.int .i64 n)
 rw [List.setIfInBounds_toArray] at this
 exact this
theorem hdm_seq (hb : Blk w S t (hdc h v).toArray) (n : Int) : Blk (w.setCell ⟨S, 4, none⟩ (.int .i64 n)) S t (hdc { h with seq := n } v).toArray := by
 have := hb.set_ 4 (.int .i64 n)
 rw [List.setIfInBounds_toArray] at this
 exact this
theorem hdm_size (hb : Blk w S t (hdc h v).toArray) (n : Int) : Blk (w.setCell ⟨S, 5, none⟩ (.int .i64 n)) S t (hdc { h with size := n } v).toArray := by
 have := hb.set_ 5 (.int .i64 n)
 rw [List.setIfInBounds_toArray] at this
 exact this
theorem hdm_commit (hb : Blk w S t (hdc h v).toArray) (hr : h.commit.length = 32) (y : List UInt8) (hy : y.length = 32) :
  (Instr.storeAt 24 (.pointer (some ⟨S, 6, none⟩)) (idv y)).run Tryz.prog w = .ok () (w.setRow S (hdc { h with commit := y } v).toArray) := by
 have := run_store_mid (off := 6) hb y hy (by rw [hdc_size h v hr]; decide)
 have e : ids.splice (hdc h v).toArray 6 (bv y) = (hdc { h with commit := y } v).toArray := by
  unfold ids.splice hdc
  rw [List.toList_toArray, List.take_append_of_le_length (by simp), List.take_of_length_le (by simp), List.drop_of_length_le (by simp [bv_length, hy, hr]), List.append_nil]
 rw [e] at this
 exact this
end
/-- a header and a number as results -/
theorem results_hd {fn : Func} {p q : Tmp} (h : fn.results = #[.cell p 26, .tmp q]) (tmps : Array Value) (w : World) (g : Nat) (t : TypeId) (o : Hd) (v : Value)
  (hp : tmps.getD p undef = .pointer (some ⟨g, 0, none⟩)) (hg : Blk w g t (hdc o v).toArray) (hr : o.commit.length = 32) :
  (results fn tmps).run Tryz.prog w = .ok (.tuple #[hdv o v, tmps.getD q undef]) w := by
 have hp' : tmps[p]?.getD undef = .pointer (some ⟨g, 0, none⟩) := by simpa using hp
 have hl := run_loadVar_row w g t 26 (hdc o v).toArray (0, 0) _ hg Tryz.underlying26 rfl (by rw [info_hd, hdc_size o v hr])
 simp [results, h, hp', asAddr, hl, hdv]
/-- an id and a number as results -/
theorem run_build_z (w : World) : (Instr.build 26 #[]).run Tryz.prog w = .ok (hdv zhd nv) w := by kernel_rfl
theorem nv_rd (w : World) : RdV w nv [] := (OwnI.nil w (fun _ => True)).rdv (by decide) |>.1
theorem rdv_one {w : World} {v : Value} {L : List (List UInt8)} (h : RdV w v L) : v.oneCell' = true := by
 obtain ⟨ad, cap, hv⟩ := h.form
 rw [hv]; rfl
/-- a header that was told, held in a block of its own -/
def heldW (w : World) (o : Hd) (v : Value) : World := (w.alloc (.cells (hdc zhd nv).toArray 26)).setRow w.heap.size (hdc o v).toArray
theorem run_hold (w : World) (o : Hd) (v : Value) (hr : o.commit.length = 32) (hv : v.oneCell' = true) :
  (Instr.storeAt 26 (.pointer (some ⟨w.heap.size, 0, none⟩)) (hdv o v)).run Tryz.prog (w.alloc (.cells (hdc zhd nv).toArray 26)) = .ok () (heldW w o v) :=
 run_store_hd (Blk.new w 26 (hdc zhd nv).toArray) (hdc_size _ _ zcom) o v hr hv
theorem held_blk (w : World) (o : Hd) (v : Value) : Blk (heldW w o v) w.heap.size 26 (hdc o v).toArray := setRow_heap _ _ _ _ _ _ (Blk.new w 26 (hdc zhd nv).toArray)
theorem held_below (w : World) (o : Hd) (v : Value) : Below w.heap.size w (heldW w o v) := below_row' ((Below.refl _ _).alloc (Nat.le_refl _) _) (Nat.le_refl _) _
end Go.Proofs.YtpeneeddfgmjpaaGreatDoor.hdr
