/-
  The landed record: the iterator over records (a range over a function).
-/
import Derived.Test.YtkbbeioednhefaaDoorRfn
import Derived.Shelf.Abstract
import Derived.Shelf.RegionOpen
import Derived.TacticsInMore
import Derived.LoopNIn
import Derived.LoopIn
import Derived.Sort.CutIn
namespace Go.Proofs.YtkbbeioednhefaaDoor.rcd
open Go.RowKit Go.Shelf Go.Proofs.YtkbbeioednhefaaDoor.mem Go.Proofs.YtkbbeioednhefaaDoor.sha Go.Proofs.YtkbbeioednhefaaDoor.opn
attribute [local go_sem] Oper.semAt_some

/-- what is yielded: a record, and an error -/
abbrev RE := {x : Rc × Int // x.1.body.length ≤ 1048576}
def encR (x : RE) : Array Value := #[recv x.1.1, .int .i64 x.1.2]
/-- all records, and the error of the first that is none -/
def items (l : List UInt8) : List (Rc × Int) := (allT l).1.map (fun r => (r, 0)) ++ if (allT l).2.2 = 0 then [] else [(zrc, (allT l).2.2)]
theorem items_nil : items [] = [] := rfl
theorem items_bad {t : List UInt8} (h : t ≠ []) (he : (firstR t).2.2 ≠ 0) : items t = [(zrc, (firstR t).2.2)] := by
  unfold items
  rw [allT_none h he]
  simp only
  rw [if_neg he]
  rfl
theorem items_good {t : List UInt8} (h : t ≠ []) (he : (firstR t).2.2 = 0) : items t = ((firstR t).1, 0) :: items (t.drop (firstR t).2.1.toNat) := by
  unfold items
  rw [allT_next h he]
  rfl
/-- what the iterator reads between two rounds -/
def KpR (BS : Nat) (W W' : World) : Prop := W.heap.size ≤ W'.heap.size ∧ W'.heap[BS]? = W.heap[BS]? ∧ W'.heap[0]? = W.heap[0]?
theorem KpR.trans {B : Nat} {X Y Z : World} (h : KpR B X Y) (k : KpR B Y Z) : KpR B X Z := ⟨Nat.le_trans h.1 k.1, k.2.1.trans h.2.1, k.2.2.trans h.2.2⟩
theorem KpR.cell {B : Nat} {W W' : World} {i : Nat} (h : KpR B W W') : W'.cell? ⟨B, i, none⟩ = W.cell? ⟨B, i, none⟩ := World.cell?_of_block (w := W) (a := ⟨B, i, none⟩) h.2.1
theorem KpR.tab {B : Nat} {W W' : World} (h : KpR B W W') (hT : crc.Tab W) : crc.Tab W' :=
  ⟨Nat.le_trans hT.1 h.1, fun j hj => by rw [World.cell?_of_block (w := W) (w' := W') (a := ⟨0, j, none⟩) h.2.2]; exact hT.2 j hj⟩
theorem KpR.below {B : Nat} {W W' : World} (hb : Below W.heap.size W W') (h : B < W.heap.size) : KpR B W W' := ⟨hb.size, hb.block B h, hb.block 0 (by omega)⟩
set_option maxHeartbeats 4000000 in
set_option maxRecDepth 100000 in
theorem recs1_in (n l BS : Nat) (s : ByteArray) (hs : s.size ≤ 1000000) (J Jx : List RE → World → Prop)
    (hY : ∀ pre x W, J pre W → pre.length < s.size → YieldAt Fence.wide n Tryd.prog l (encR x) W fun e W' =>
      (e = .returned (.bool true) ∧ J (pre ++ [x]) W' ∧ KpR BS W W') ∨ (e = .returned (.bool false) ∧ Jx (pre ++ [x]) W'))
    (hJb : ∀ s W W', J s W → Below W.heap.size W W' → J s W')
    (W : World) (hBS : W.cell? ⟨BS, 0, none⟩ = some (.string s)) (hBl : BS < W.heap.size) (hT : crc.Tab W) (h0 : J [] W) :
    CallsIn Fence.wide (n + 1) Tryd.prog 89 #[.func (.yield l) #[] #[], .pointer (some ⟨BS, 0, none⟩)] W fun e W' => (∃ v, e = .returned v) ∧
      ((∃ ys : List RE, ys.map (·.1) = items s.data.toList ∧ J ys W') ∨ (∃ pre : List RE, pre.map (·.1) <+: items s.data.toList ∧ Jx pre W')) := by
  have hl : s.data.toList.length = s.size := Array.length_toList
  obtain ⟨L, hle⟩ : ∃ l, l = s.data.toList := ⟨_, rfl⟩
  have HN := Lib.hid fun i u (hu : crc.Tab u) => lnext_any s i u hu hs
  rw [← hle] at hl HN ⊢
  have s0 : (0 : Int) ≤ (s.size : Int) := Int.natCast_nonneg _
  clear hle
  refine callsIn_of_wp Tryd.func89 rfl trivial ?_ rfl
  simp only [Tryd.ntmps89, List.size_toArray, List.length_cons, List.length_nil, Nat.reduceAdd, Nat.reduceSub, Array.replicate_succ, Array.replicate_zero, List.push_toArray, List.append_toArray, List.nil_append, List.cons_append]
  gi_wp2
  gi_loopw [3] (fun i wr => ∃ (k : Nat) (pre : List RE), i = .int .i64 (k : Int) ∧ k ≤ s.size ∧ pre.length ≤ k ∧ items L = pre.map (·.1) ++ items (L.drop k) ∧ J pre wr ∧ KpR BS W wr) (fun i _ => s.size - (intOf i).toNat)
  case atStart => exact ⟨0, [], rfl, Nat.zero_le _, Nat.le_refl _, rfl, h0, Nat.le_refl _, rfl, rfl⟩
  case round =>
    obtain ⟨k, pre, rfl, hk, hpl, hit, hJs, hKp⟩ := hrel
    have c1 := hKp.cell.trans hBS
    have hT2 := hKp.tab hT
    have k0 : (0 : Int) ≤ (k : Int) := Int.natCast_nonneg _
    have hBl2 : BS < wr.heap.size := Nat.lt_of_lt_of_le hBl hKp.1
    by_cases hlt : k < s.size
    · have hltz : (k : Int) < (s.size : Int) := by omega
      have hne : L.drop k ≠ [] := fun h => by have := congrArg List.length h; rw [List.length_drop, List.length_nil] at this; omega
      have HNN := HN.out (k : Int) wr hT2
      have hfb := first_bad (l := L.drop k)
      have hfs := first_size (t := L.drop k)
      have hfl := first_len (l := L.drop k)
      have hig := items_good hne
      have hib := items_bad hne
      have hno := next_ok (l := L) (i := (k : Int)) (n := (firstR (L.drop k)).2.1) (r := (firstR (L.drop k)).1) (by omega) (by omega)
      have hnb := next_bad (l := L) (i := (k : Int)) (e := (firstR (L.drop k)).2.2) (by omega) (by omega)
      rw [Int.toNat_natCast] at hno hnb
      obtain ⟨⟨rk, rb⟩, rn, re, hf⟩ : ∃ r n e, firstR (L.drop k) = (r, n, e) := ⟨_, _, _, rfl⟩
      rw [hf] at hfb hfs hfl hig hib hno hnb
      simp only at hfb hfs hfl hig hib hno hnb
      by_cases he : re = 0
      · subst he
        obtain ⟨hs9, hsl⟩ := hfs rfl
        obtain ⟨hn9, hrb⟩ := hfl rfl
        rw [List.length_drop] at hsl
        obtain ⟨m, rfl⟩ : ∃ m : Nat, rn = (m : Int) := ⟨rn.toNat, by omega⟩
        have hit2 := hig rfl
        rw [Int.toNat_natCast, List.drop_drop] at hit2
        rw [hno rfl] at HNN
        simp only [nextV, recv] at HNN
        have HNQ := Lib.hid HNN
        clear HNN
        have HIT := Lib.hid hit
        have HIT2 := Lib.hid hit2
        have m9 : 9 ≤ m := by omega
        have ms : k + m ≤ s.size := by omega
        clear hfb hfl hig hib hno hnb hf hne hit hit2 hs9 hsl hn9 hfs
        gi_upto_region 3 with (refine ⟨trivial, ?_⟩; gi_at_call 90; (refine (callsIn_wide.2 HNQ.out).mono ?_); rintro e w2 ⟨rfl, hb2⟩)
        have hb3 : Below wr.heap.size wr (w2.alloc (.cells #[.int .i64 rk, .string (oct.tx rb)] 39)) := hb2.trans (((Below.refl _ w2).alloc (Nat.le_refl _) _).mono hb2.size)
        obtain ⟨fn, tmps, assign, body, hy, hR⟩ := hY pre ⟨(⟨rk, rb⟩, 0), hrb⟩ _ (hJb _ _ _ hJs hb3) (by omega)
        dsimp only [encR, recv] at hy
        have hK3 := KpR.below (B := BS) hb3 hBl2
        have HK3 := Lib.hid (KpR.trans hKp hK3)
        have HR := Lib.hid hR
        clear hR hY hJs hKp hK3 HNQ hb3
        gi_wp2
        refine HR.out.mono ?_
        rintro e' W' (⟨rfl, hJ3, hk3⟩ | ⟨rfl, hJx3⟩)
        · have HJ3 := Lib.hid hJ3
          have HK4 := Lib.hid (KpR.trans HK3.out hk3)
          clear hJ3 hk3
          gi_wp2
          go_roundw
          case rel => exact ⟨k + m, _, by push_cast; rfl, ms, by rw [List.length_append, List.length_singleton]; omega, by rw [HIT.out, HIT2.out, List.map_append, List.append_assoc]; rfl, HJ3.out, HK4.out⟩
          case measure => (simp [intOf]; try omega)
        · gi_wp2
          refine bodyPost_ret (results_none rfl _ _ _) rfl ?_
          exact ⟨⟨_, rfl⟩, .inr ⟨_, by rw [HIT.out, HIT2.out, List.map_append]; exact ⟨items (L.drop (k + m)), by rw [List.append_assoc]; rfl⟩, hJx3⟩⟩
      · have hit2 := hib he
        have hz := hfb he
        injection hz with hz _
        rw [hnb (by rw [← hf]; rw [hf, hfb he]) he] at HNN
        simp only [nextV, recv, zrc] at HNN
        have HNQ := Lib.hid HNN
        have HIT := Lib.hid hit
        have HIT2 := Lib.hid hit2
        have hd : (re != 0) = true := bne_iff_ne.2 he
        clear hfb hfl hig hib hno hnb hf hne hit hit2 hfs hz HNN he
        gi_upto_region 3 with (refine ⟨trivial, ?_⟩; gi_at_call 90; (refine (callsIn_wide.2 HNQ.out).mono ?_); rintro e w2 ⟨rfl, hb2⟩)
        have hb3 : Below wr.heap.size wr (w2.alloc (.cells #[.int .i64 0, .string (oct.tx [])] 39)) := hb2.trans (((Below.refl _ w2).alloc (Nat.le_refl _) _).mono hb2.size)
        obtain ⟨fn, tmps, assign, body, hy, hR⟩ := hY pre ⟨(zrc, re), Nat.zero_le _⟩ _ (hJb _ _ _ hJs hb3) (by omega)
        dsimp only [encR, recv, zrc] at hy
        have hK3 := KpR.below (B := BS) hb3 hBl2
        have HK3 := Lib.hid (KpR.trans hKp hK3)
        have HR := Lib.hid hR
        clear hR hY hJs hKp hK3 HNQ hb3
        gi_wp2
        refine HR.out.mono ?_
        rintro e' W' (⟨rfl, hJ3, hk3⟩ | ⟨rfl, hJx3⟩)
        · gi_wp2
          refine bodyPost_ret (results_none rfl _ _ _) rfl ?_
          exact ⟨⟨_, rfl⟩, .inl ⟨_, by rw [HIT.out, HIT2.out, List.map_append]; rfl, hJ3⟩⟩
        · gi_wp2
          refine bodyPost_ret (results_none rfl _ _ _) rfl ?_
          exact ⟨⟨_, rfl⟩, .inr ⟨_, by rw [HIT.out, HIT2.out, List.map_append]; exact ⟨[], by rw [List.append_nil]; rfl⟩, hJx3⟩⟩
    · obtain rfl : k = s.size := by omega
      have hnil : L.drop s.size = [] := List.drop_of_length_le (by omega)
      have HIT := Lib.hid hit
      have HNIL := Lib.hid hnil
      clear hit hnil
      gi_wp2
      go_end0
      exact ⟨⟨_, rfl⟩, .inl ⟨pre, by rw [HIT.out, HNIL.out, items_nil, List.append_nil], hJs⟩⟩
end Go.Proofs.YtkbbeioednhefaaDoor.rcd
