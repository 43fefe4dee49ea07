/-
  Lists of texts: how they lie to be read, lists of the call's own; petrelref13.Texts.
  A list of texts that came in, as it is read.
-/
import Derived.Test.YtkbbeioednhefaaGreatDoorOwnk
import Derived.Test.YtkbbeioednhefaaGreatDoorStrx
import Derived.Deep.CutRange
import Derived.Deep.CutBlock
import Derived.RegionTactic
import Derived.BigRegion
import Derived.BigQuiet
import Derived.Test.YtkbbeioednhefaaGreatDoorStrs
namespace Go.Proofs.YtkbbeioednhefaaGreatDoor.txl
open Go.RowKit Go.Proofs.YtkbbeioednhefaaGreatDoor.mem Go.Proofs.YtkbbeioednhefaaGreatDoor.sha Go.Proofs.YtkbbeioednhefaaGreatDoor.rows Go.Proofs.YtkbbeioednhefaaGreatDoor.ids Go.Proofs.YtkbbeioednhefaaGreatDoor.strx

/-- v is a list of the texts L, in blocks of N -/
def TxA (w : World) (N : Nat → Prop) (v : Value) (L : List (List UInt8)) : Prop := ∃ ad cap, v = .slice ad L.length cap ∧ ∀ i, i < L.length → ∃ b off, ad = some ⟨b, off, none⟩ ∧ b < w.heap.size ∧ N b ∧ w.cell? ⟨b, off + i, none⟩ = some (.string (bt (L.getD i [])))
theorem TxA.turn {w w' : World} {N H : Nat → Prop} {v : Value} {L : List (List UInt8)} (h : TxA w N v L) (ht : Turn H w w') (hd : ∀ k, k < w.heap.size → N k → ¬ H k) : TxA w' N v L := by
  obtain ⟨ad, cap, hv, hc⟩ := h
  refine ⟨ad, cap, hv, fun i hi => ?_⟩
  obtain ⟨b, off, e, hb, hn, h1⟩ := hc i hi
  exact ⟨b, off, e, Nat.lt_of_lt_of_le hb ht.size, hn, (ht.cell (hd b hb hn)).trans h1⟩
theorem TxA.next {w w' : World} {N : Nat → Prop} {v : Value} {L : List (List UInt8)} (h : TxA w N v L) (hb : Below w.heap.size w w') : TxA w' N v L :=
  h.turn (Turn.ofBelow hb) fun _ hk _ => Nat.not_le.2 hk
theorem TxA.mono {w : World} {N M : Nat → Prop} {v : Value} {L : List (List UInt8)} (h : TxA w N v L) (hm : ∀ k, k < w.heap.size → N k → M k) : TxA w M v L := by
  obtain ⟨ad, cap, hv, hc⟩ := h
  refine ⟨ad, cap, hv, fun i hi => ?_⟩
  obtain ⟨b, off, e, hb, hn, h1⟩ := hc i hi
  exact ⟨b, off, e, hb, hm b hb hn, h1⟩
theorem TxA.nil (w : World) (N : Nat → Prop) : TxA w N (.slice none 0 0) [] := ⟨none, 0, rfl, fun i hi => by simp at hi⟩
theorem TxA.form {w : World} {N : Nat → Prop} {v : Value} {L : List (List UInt8)} (h : TxA w N v L) : ∃ ad cap, v = .slice ad L.length cap := by
  obtain ⟨ad, cap, hv, _⟩ := h
  exact ⟨ad, cap, hv⟩

def txc (s : List UInt8) : List Value := [.string (bt s)]
theorem txc_uni (s : List UInt8) : (txc s).length = 1 ∧ ∀ u ∈ txc s, u.oneCell' = true := ⟨rfl, fun u hu => by simp only [txc, List.mem_singleton] at hu; subst hu; rfl⟩
def OwnT (w : World) (F : Nat → Prop) (v : Value) (L : List (List UInt8)) : Prop := OwnK w F 9 1 v (L.map txc)
theorem info_str : (Tryz.prog.info? 9).map (fun i => (i.zero, i.size, i.bytes)) = some (some (.string ⟨#[]⟩), 1, 16) := by kernel_rfl
theorem getD_txc (L : List (List UInt8)) {i : Nat} (hi : i < L.length) : (L.map txc).getD i [] = txc (L.getD i []) := by
  simp [List.getD_eq_getElem?_getD, List.getElem?_map, List.getElem?_eq_getElem hi]
theorem OwnT.txa {w : World} {F : Nat → Prop} {v : Value} {L : List (List UInt8)} (h : OwnT w F v L) : TxA w F v L := by
  obtain ⟨ad, cap, hv⟩ := OwnK.form h
  rw [List.length_map] at hv
  refine ⟨ad, cap, hv, fun i hi => ?_⟩
  obtain ⟨g, cap', cur, hv2, hF, hh, h1, h2, h3, h4⟩ := OwnK.at_ h (by rw [List.length_map]; omega)
  rw [List.length_map] at hv2
  have e : ad = some ⟨g, 0, none⟩ ∧ cap = cap' := by rw [hv] at hv2; injection hv2 with a b c; exact ⟨a, c⟩
  obtain ⟨rfl, rfl⟩ := e
  refine ⟨g, 0, rfl, Blk.lt hh, hF, ?_⟩
  have h' : OwnK w F 9 1 (.slice (some ⟨g, 0, none⟩) (L.map txc).length cap) (L.map txc) := by rw [List.length_map, ← hv]; exact h
  have := OwnK.cell h' (i := i) (j := 0) (by rw [List.length_map]; exact hi) (by decide) (u := .string (bt (L.getD i []))) (by rw [getD_txc L hi]; rfl)
  rw [Nat.mul_one, Nat.add_zero] at this
  rw [Nat.zero_add]
  exact this
/-- one more text -/
theorem push_tx {w : World} {F : Nat → Prop} {v : Value} {L : List (List UInt8)} (hO : OwnT w F v L) (t : ByteArray) (hL : L.length < 1000000) :
    ∃ v' w', (Builtin.append_ #[33, 33] 33 #[v, .slice (some ⟨w.heap.size, 0, none⟩) 1 1]).run Tryz.prog (w.alloc (.cells #[.string t] 9)) = .ok v' w' ∧
      OwnT w' (fun k => v.ownBlock = some k ∨ w.heap.size ≤ k) v' (L ++ [t.data.toList]) ∧ Turn (fun k => v.ownBlock = some k ∨ w.heap.size ≤ k) w w' := by
  obtain ⟨i0, hi, hz0, hz1, hz2⟩ := info_parts info_str
  have h1 : Below w.heap.size w (w.alloc (.cells #[.string t] 9)) := (Below.refl _ _).alloc (Nat.le_refl _) _
  have hs := h1.size
  have hg : ∀ j u, (txc t.data.toList)[j]? = some u → (w.alloc (.cells #[.string t] 9)).cell? ⟨w.heap.size, j, none⟩ = some u := fun j u hu => by
    rw [(Blk.new w 9 #[.string t]).cell j]
    simpa [txc, bt_of] using hu
  obtain ⟨v', w', hr, hO', hT⟩ := run_append_k Tryz.underlying33 hi hz0 hz1 hz2 rfl (by decide) (OwnK.next hO h1) (txc_uni t.data.toList) (cap := 1) hg (by rw [List.length_map]; exact hL) (by decide) 33
  refine ⟨v', w', hr, ?_, ((Turn.ofBelow h1).mono fun k hk => .inr hk).trans (hT.mono fun k hk => hk.imp id fun x => Nat.le_trans hs x)⟩
  unfold OwnT
  rw [List.map_append]
  exact hO'.place fun k hk => (hO'.2.2 k hk).imp id fun x => Nat.le_trans hs x
/-- the first k -/
theorem TxA.cut {w : World} {N : Nat → Prop} {ad : Option Addr} {n cap : Nat} {L : List (List UInt8)} (h : TxA w N (.slice ad n cap) L) (k : Nat) (hk : k ≤ L.length) : TxA w N (.slice ad k cap) (L.take k) := by
  obtain ⟨ad', cap', hv, hc⟩ := h
  cases hv
  have hl : (L.take k).length = k := by rw [List.length_take]; omega
  refine ⟨ad, cap, by rw [hl], fun i hi => ?_⟩
  rw [hl] at hi
  obtain ⟨b, off, e, hb, hn, h1⟩ := hc i (by omega)
  refine ⟨b, off, e, hb, hn, ?_⟩
  rw [h1, List.getD_eq_getElem?_getD, List.getD_eq_getElem?_getD, List.getElem?_take_of_lt hi]
theorem slice_own {w : World} {F : Nat → Prop} {ad : Option Addr} {n cap : Nat} {L : List (List UInt8)} (h : OwnT w F (.slice ad n cap) L) (k : Nat) (hk : k ≤ L.length) (u : World) :
    (Instr.sliceAt 33 (.slice ad n cap) none (some (.int .i64 (k : Int))) none).run Tryz.prog u = .ok (.slice ad k cap) u := by
  obtain ⟨y, hy, _, hs, _⟩ := info_parts info_str
  have h0 : (0 : Int) ≤ (k : Int) := Int.natCast_nonneg _
  simp only [Instr.sliceAt, Instr.slice, Instr.sliceBounds, Instr.sliceBound, asIntOf, sizeOf, typeInfo, Sem.run_bind, Sem.run_pure, Result.andThen_ok, run_underlying Tryz.underlying33]
  rcases h.2.1.2 with ⟨e, hn⟩ | ⟨g, c', cur, e, _, _, hle, _, _, _⟩
  · cases e
    rw [List.length_map] at hn
    obtain rfl : k = 0 := by omega
    simp [hy, hs]
  · cases e
    rw [List.length_map] at hle
    have hc : (k : Int) ≤ (cap : Int) := by omega
    simp [hy, hs, hc, Addr.add]
theorem bt_inj {a b : List UInt8} (h : bt a = bt b) : a = b := by
  have := congrArg (fun x : ByteArray => x.data.toList) h
  simpa [bt_list] using this
theorem ext_getD {L M : List (List UInt8)} (hl : L.length = M.length) (h : ∀ i, i < L.length → L.getD i [] = M.getD i []) : L = M := by
  refine List.ext_getElem hl fun i h1 h2 => ?_
  have := h i h1
  rwa [List.getD_eq_getElem?_getD, List.getD_eq_getElem?_getD, List.getElem?_eq_getElem h1, List.getElem?_eq_getElem h2] at this
set_option maxHeartbeats 2000000 in
set_option maxRecDepth 100000 in
theorem texts_any {w : World} {N M : Nat → Prop} {va vb : Value} {L K : List (List UInt8)} (hA : TxA w N va L) (hB : TxA w M vb K) (hm : L.length ≤ 1000000) :
    Calls Tryz.prog 12 #[va, vb] w fun e w' => e = .returned (.bool (decide (L = K))) ∧ Below w.heap.size w w' := by
  obtain ⟨ad, c1, rfl, hC1⟩ := hA
  obtain ⟨bd, c2, rfl, hC2⟩ := hB
  by_cases hl : L.length = K.length
  case neg =>
    have hd : decide (L = K) = false := decide_eq_false fun h => hl (by rw [h])
    have hz : ¬ (L.length : Int) = (K.length : Int) := by omega
    rw [hd]
    clear hd hC1 hC2
    go_enter Tryz.func12, Tryz.ntmps12
    go_wp2_with fail
    go_ret
    exact ⟨rfl, Below.refl _ _⟩
  obtain ⟨ans, hans⟩ : ∃ a, a = decide (L = K) := ⟨_, rfl⟩
  rw [← hans]
  have HANS := Lib.hid hans
  clear hans
  obtain ⟨n, hn⟩ : ∃ n, n = L.length := ⟨_, rfl⟩
  have hnk : n = K.length := hn.trans hl
  rw [← hn] at hC1 hm ⊢
  rw [← hnk] at hC2 ⊢
  have HN := Lib.hid hn
  have HNK := Lib.hid hnk
  have n0 : (0 : Int) ≤ (n : Int) := Int.natCast_nonneg _
  clear hn hl hnk
  go_enter Tryz.func12, Tryz.ntmps12
  go_wp2_with fail
  go_loopg [5] (n + 1) (fun gk s5 wr => ∃ i : Nat, s5 = .int .i64 i ∧ i ≤ n ∧ n - i < gk ∧ Hid (∀ j, j < i → L.getD j [] = K.getD j []) ∧ Hid (Below w.heap.size w wr))
  case atStart => exact ⟨0, rfl, Nat.zero_le _, by omega, Lib.hid (fun j hj => by omega), Lib.hid (Below.refl _ _)⟩
  case round =>
    obtain ⟨i, rfl, hi, hgk, HE, HB⟩ := hrel
    have i0 : (0 : Int) ≤ (i : Int) := Int.natCast_nonneg _
    by_cases hlt : i < n
    · have hltz : (i : Int) < (n : Int) := by omega
      obtain ⟨b, off, rfl, hbl, _, a0⟩ := hC1 i hlt
      obtain ⟨b', off', rfl, hbl', _, a0'⟩ := hC2 i hlt
      replace a0 := (HB.out.cell (p := ⟨b, off + i, none⟩) hbl).trans a0
      replace a0' := (HB.out.cell (p := ⟨b', off' + i, none⟩) hbl').trans a0'
      by_cases heq : L.getD i [] = K.getD i []
      · have HQ := Lib.hid heq
        rw [heq] at a0
        obtain ⟨t, ht⟩ : ∃ t, t = bt (K.getD i []) := ⟨_, rfl⟩
        rw [← ht] at a0 a0'
        clear heq ht hC1 hC2
        go_upto_region 6 with fail
        go_quiet (fail)
        go_wp2_with fail
        go_roundg (n - i)
        case measure => omega
        case rel => exact ⟨i + 1, by go_num, hlt, by omega, Lib.hid fun j hj => (by by_cases hji : j = i; (rw [hji]; exact HQ.out); exact HE.out j (by omega)), Lib.hid (below_drewN HB.out _)⟩
      · have hd : decide (L = K) = false := decide_eq_false fun h => heq (by rw [h])
        have hne : ((bt (L.getD i [])).toList == (bt (K.getD i [])).toList) = false := by
          refine Bool.eq_false_iff.2 fun h => heq ?_
          have := eq_of_beq h
          rwa [ByteArray.toList_eq, ByteArray.toList_eq, bt_list, bt_list] at this
        obtain ⟨t, ht⟩ : ∃ t, t = bt (L.getD i []) := ⟨_, rfl⟩
        obtain ⟨t', ht'⟩ : ∃ t, t = bt (K.getD i []) := ⟨_, rfl⟩
        rw [← ht] at a0 hne
        rw [← ht'] at a0' hne
        have HD := Lib.hid hd
        have HBB := HB
        clear heq ht ht' hC1 hC2 hd
        go_upto_region 6 with fail
        go_quiet (fail)
        go_wp2_with fail
        go_ret
        exact ⟨by rw [HANS.out, HD.out]; rfl, below_drewN HBB.out _⟩
    · have hlt' : ¬ (i : Int) < (n : Int) := by omega
      have hd : decide (L = K) = true := decide_eq_true (ext_getD (HN.out ▸ HNK.out) fun j hj => HE.out j (by have := HN.out; omega))
      have HD := Lib.hid hd
      clear hd hC1 hC2
      go_wp2_with fail
      go_ret
      exact ⟨by rw [HANS.out, HD.out]; rfl, HB.out⟩
end Go.Proofs.YtkbbeioednhefaaGreatDoor.txl

namespace Go.Proofs.YtkbbeioednhefaaGreatDoor.kit
open Go.ChangeShapes Go.WideShapes Go.ChangeAt Go.RowKit Go.Proofs.YtkbbeioednhefaaGreatDoor.txl Go.Proofs.YtkbbeioednhefaaGreatDoor.strx

theorem txa_of_strs {w : World} {ad : Option Addr} {n cap : Nat} {S : Nat → ByteArray} (h : Strs w ad n S) : TxA w (· < w.heap.size) (.slice ad n cap) ((List.range n).map fun i => (S i).data.toList) := by
  have hl : ((List.range n).map fun i => (S i).data.toList).length = n := by rw [List.length_map, List.length_range]
  refine ⟨ad, cap, by rw [hl], fun i hi => ?_⟩
  rw [hl] at hi
  obtain ⟨b, off, e, hb, hc, _⟩ := h i hi
  refine ⟨b, off, e, hb, hb, ?_⟩
  rw [hc, List.getD_eq_getElem?_getD, List.getElem?_map, List.getElem?_range hi]
  show some (Value.string (S i)) = some (.string (bt (S i).data.toList))
  rw [bt_of]
set_option maxRecDepth 100000 in
theorem open_texts {H : Type} {enc : TypeId × Value → H} {W : World} {base : Nat} {ts : List TypeId} {ds : List (DataW H)} {j : Nat} {v : Value} {d : DataW H} {p : List MemPlace}
    (hv : Value.okWide Tryz.prog W .any base 33 v) (h : DataW.Trod enc Tryz.prog W 0 (fun _ => true) true 33 v d p)
    (hsz : (DataW.weightsEach Tryz.prog ts ds).all (· ≤ reachBytes) = true) (htj : ts[j]? = some 33) (hdj : ds[j]? = some d) :
    ∃ L, TxA W (· < W.heap.size) v L ∧ L.length ≤ 9223372036854775807 := by
  obtain ⟨ad, n, cap, S, rfl, hn, hs⟩ := open_strs hv h hsz htj hdj
  exact ⟨_, txa_of_strs hs, by rw [List.length_map, List.length_range]; exact hn⟩
end Go.Proofs.YtkbbeioednhefaaGreatDoor.kit
