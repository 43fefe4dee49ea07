/-
  petrellaw11.bytesOf; the walk of RecordBack.
-/
import Derived.Test.YtdnkbgiellhfnaaDoorRcis
import Derived.Deep.CutRange
import Derived.Deep.CutBlock
namespace Go.Proofs.YtdnkbgiellhfnaaDoor.rcd
open Go.RowKit Go.Proofs.YtdnkbgiellhfnaaDoor.mem Go.Proofs.YtdnkbgiellhfnaaDoor.sha Go.Proofs.YtdnkbgiellhfnaaDoor.opn Go.Proofs.YtdnkbgiellhfnaaDoor.rows Go.Proofs.YtdnkbgiellhfnaaDoor.ids

def okR (r : Rc) : Bool := decide (checkR r = 0) && decide ((enR r).length < 3000)
def goodL (L : List Rc) (i : Nat) : List Rc := (L.take i).filter okR
theorem goodL_zero (L : List Rc) : goodL L 0 = [] := rfl
theorem goodL_next (L : List Rc) {i : Nat} (hi : i < L.length) : goodL L (i + 1) = if okR (L.getD i zrc) = true then goodL L i ++ [L.getD i zrc] else goodL L i := by
  unfold goodL
  rw [List.take_add_one, List.getElem?_eq_getElem hi, List.filter_append, List.getD_eq_getElem?_getD, List.getElem?_eq_getElem hi]
  simp only [Option.toList_some, Option.getD_some, List.filter_cons, List.filter_nil]
  split <;> simp
theorem goodL_all (L : List Rc) {i : Nat} (hi : L.length ≤ i) : goodL L i = L.filter okR := by unfold goodL; rw [List.take_of_length_le hi]
theorem goodL_ok (L : List Rc) (i : Nat) : ∀ r ∈ goodL L i, checkR r = 0 ∧ (enR r).length < 3000 := fun r hr => by
  have := (List.mem_filter.1 hr).2
  unfold okR at this
  simpa using this
theorem goodL_len (L : List Rc) (i : Nat) : (goodL L i).length ≤ i := Nat.le_trans (List.length_filter_le _ _) (by rw [List.length_take]; omega)
theorem enL_le : ∀ (G : List Rc), (∀ r ∈ G, (enR r).length < 3000) → (enL G).length ≤ G.length * 3000
  | [], _ => by simp [enL]
  | r :: G, h => by
    have := enL_le G fun x hx => h x (List.mem_cons_of_mem _ hx)
    have h1 := h r List.mem_cons_self
    rw [enL_cons, List.length_append, List.length_cons]
    omega
/-- where each of them ends -/
def endsV (G : List Rc) : List Value := (List.range G.length).map fun j => .int .i64 ((enL (G.take (j + 1))).length : Int)
theorem endsV_snoc (G : List Rc) (r : Rc) : endsV (G ++ [r]) = endsV G ++ [.int .i64 ((enL (G ++ [r])).length : Int)] := by
  unfold endsV
  rw [List.length_append, List.length_singleton, List.range_succ, List.map_append]
  congr 1
  · apply List.map_congr_left
    intro j hj
    rw [List.take_append_of_le_length (by have := List.mem_range.1 hj; omega)]
  · simp only [List.map_cons, List.map_nil]
    rw [List.take_of_length_le (by rw [List.length_append]; simp)]
theorem info_int : (Tryd.prog.info? 3).map (fun i => (i.zero, i.size, i.bytes)) = some (some (.int .i64 0), 1, 8) := by kernel_rfl
theorem elem_int : Elem 43 3 8 := Elem.of Tryd.underlying43 info_int rfl
/-- one record more -/
theorem push_r {w : World} {F : Nat → Prop} {v : Value} {L : List Rc} (hO : OwnR w F v L) (r : Rc) (hL : L.length < 100000) :
    ∃ v' w', (Builtin.append_ #[36, 36] 36 #[v, .slice (some ⟨w.heap.size, 0, none⟩) 1 1]).run Tryd.prog (w.alloc (.cells #[.int .i64 r.k, .string (oct.tx r.body)] 23)) = .ok v' w' ∧
      OwnR w' (fun k => v.ownBlock = some k ∨ w.heap.size ≤ k) v' (L ++ [r]) ∧ Turn (fun k => v.ownBlock = some k ∨ w.heap.size ≤ k) w w' := by
  obtain ⟨i0, hi, hz0, hz1, hz2⟩ := info_parts info_rc3
  have h1 : Below w.heap.size w (w.alloc (.cells #[.int .i64 r.k, .string (oct.tx r.body)] 23)) := (Below.refl _ _).alloc (Nat.le_refl _) _
  have hb : Blk (w.alloc (.cells #[.int .i64 r.k, .string (oct.tx r.body)] 23)) w.heap.size 23 #[.int .i64 r.k, .string (oct.tx r.body)] := Blk.new _ _ _
  obtain ⟨v', w', hrun, hO', hT⟩ := run_append_k (c := 2) (by_ := 24) Tryd.underlying36 hi hz0 hz1 hz2 rfl (by decide) (OwnK.next hO h1) (rcc_uni r) (g := w.heap.size) (cap := 1) (fun j u hu => by
    rw [hb.cell, ← hu]
    match j with
    | 0 => rfl
    | 1 => rfl
    | j + 2 => rfl) (by rw [List.length_map]; omega) (by decide) 36
  have hle := h1.size
  refine ⟨v', w', hrun, ?_, (((Turn.ofBelow h1).mono fun k hk => .inr hk).trans (hT.mono fun k hk => hk.imp id fun h => Nat.le_trans hle h))⟩
  have := hO'.place (G := fun k => v.ownBlock = some k ∨ w.heap.size ≤ k) fun j hj => (hO'.2.2 j hj).imp id fun h => Nat.le_trans hle h
  unfold OwnR
  rw [List.map_append]
  exact this
/-- one number more -/
theorem push_n {w : World} {F : Nat → Prop} {v : Value} {xs : List Value} (hO : OwnC w F 3 v xs) (x : Int) (hL : xs.length < 100000) :
    ∃ v' w', (Builtin.append_ #[43, 43] 43 #[v, .slice (some ⟨w.heap.size, 0, none⟩) 1 1]).run Tryd.prog (w.alloc (.cells #[.int .i64 x] 3)) = .ok v' w' ∧
      OwnC w' (fun k => v.ownBlock = some k ∨ w.heap.size ≤ k) 3 v' (xs ++ [.int .i64 x]) ∧ Turn (fun k => v.ownBlock = some k ∨ w.heap.size ≤ k) w w' := by
  have h1 : Below w.heap.size w (w.alloc (.cells #[.int .i64 x] 3)) := (Below.refl _ _).alloc (Nat.le_refl _) _
  have hle := h1.size
  have hR := (OwnC.laid1 w (fun k => w.heap.size ≤ k) 3 (.int .i64 x) (fun k hk => hk)).rdc (by simp)
  have hO1 : OwnC (w.alloc (.cells #[.int .i64 x] 3)) (fun k => v.ownBlock = some k ∨ w.heap.size ≤ k) 3 v xs := (hO.below h1 |> fun h => ⟨h.1, fun k hk => .inl hk⟩)
  obtain ⟨v', w', hrun, hO', hT⟩ := run_append_c elem_int hO1 hR.1 (fun u hu => by rw [List.mem_singleton.1 hu]; rfl) (by simp; omega) (by simp; omega) (fun k hk => .inr (Nat.le_trans hle hk)) 43
  exact ⟨v', w', hrun, hO', ((Turn.ofBelow h1).mono fun k hk => .inr hk).trans (hT.mono fun k hk => hk.imp id fun h => Nat.le_trans hle h)⟩
/-- what has been laid: the bytes, the records, where they end -/
structure BO (w0 : World) (G : List Rc) (v6 v7 : Value) (w : World) : Prop where
  below : Below w0.heap.size w0 w
  r : OwnR w (w0.heap.size ≤ ·) v6 G
  n : OwnC w (w0.heap.size ≤ ·) 3 v7 (endsV G)
  apart : ∀ k, v6.ownBlock = some k → v7.ownBlock = some k → False
theorem BO.next {w0 w w' : World} {G : List Rc} {v6 v7 : Value} (h : BO w0 G v6 v7 w) (hb : Below w.heap.size w w') : BO w0 G v6 v7 w' :=
  ⟨h.below.trans (hb.mono h.below.size), OwnK.next h.r hb, h.n.below hb, h.apart⟩
/-- the two appends -/
theorem BO.push {w0 w : World} {G : List Rc} {v6 v7 : Value} (h : BO w0 G v6 v7 w) (r : Rc) (hG : G.length < 10000) :
    ∃ v6' w2 v7' w3, (Builtin.append_ #[36, 36] 36 #[v6, .slice (some ⟨w.heap.size, 0, none⟩) 1 1]).run Tryd.prog (w.alloc (.cells #[.int .i64 r.k, .string (oct.tx r.body)] 23)) = .ok v6' w2 ∧
      (Builtin.append_ #[43, 43] 43 #[v7, .slice (some ⟨w2.heap.size, 0, none⟩) 1 1]).run Tryd.prog (w2.alloc (.cells #[.int .i64 ((enL (G ++ [r])).length : Int)] 3)) = .ok v7' w3 ∧ BO w0 (G ++ [r]) v6' v7' w3 := by
  have hw := h.below.size
  obtain ⟨v6', w2, hrun, hO, hT⟩ := push_r h.r r (by omega)
  have hn : OwnC w2 (w0.heap.size ≤ ·) 3 v7 (endsV G) := h.n.turn hT fun k hk hh => hh.elim (fun e => h.apart k e hk) (fun e => by have := h.n.lt hk; omega)
  obtain ⟨v7', w3, hrun2, hO2, hT2⟩ := push_n hn ((enL (G ++ [r])).length : Int) (by unfold endsV; rw [List.length_map, List.length_range]; omega)
  have hb2 : Below w0.heap.size w0 w2 := h.below.trans (hT.below fun k hk => hk.elim (fun e => h.r.2.2 k e) (fun e => by omega))
  have hw2 := hb2.size
  have hws := hT.size
  refine ⟨v6', w2, v7', w3, hrun, hrun2, ⟨hb2.trans (hT2.below fun k hk => hk.elim (fun e => h.n.2 k e) (fun e => by omega)), ?_, ?_, fun k hk hk7 => ?_⟩⟩
  · have := OwnK.turn hO hT2 fun k hk hh => hh.elim (fun e => (hO.2.2 k hk).elim (fun e6 => h.apart k e6 e) (fun e6 => by have := h.n.lt e; omega)) (fun e => by have := OwnK.lt hO hk; omega)
    exact this.place fun k hk => (hO.2.2 k hk).elim (fun e => h.r.2.2 k e) (fun e => by show w0.heap.size ≤ k; omega)
  · rw [endsV_snoc]
    exact hO2.mono fun k hk => hk.elim (fun e => h.n.2 k e) (fun e => by show w0.heap.size ≤ k; omega)
  · have a := hO.2.2 k hk
    have b := hO2.2 k hk7
    have c := OwnK.lt hO hk
    rcases b with b | b
    · rcases a with a | a
      · exact h.apart k a b
      · have := h.n.lt b; omega
    · omega
section
variable {T : World → Prop}
set_option maxHeartbeats 4000000 in
set_option maxRecDepth 100000 in
theorem bytes_any (hI : RcIs T) {L : List Rc} {v : Value} {w : World} (hT : T w) (hR : RcV w v L) (hm : ∀ r ∈ L, r.body.length ≤ 140737488355328) (hl : L.length ≤ 9223372036854775807) :
    Calls Tryd.prog 17 #[v] w fun e w' => ∃ v6 v7, e = .returned (.tuple #[.string (oct.tx (enL (goodL L 20))), v6, v7]) ∧ BO w (goodL L 20) v6 v7 w' := by
  obtain ⟨ad, cap, rfl, hC⟩ := hR
  have HI := Lib.hid hI
  have HT := Lib.hid hT
  have HC := Lib.hid hC
  have HM := Lib.hid hm
  obtain ⟨n, hn⟩ : ∃ n, n = L.length := ⟨_, rfl⟩
  have HN := Lib.hid hn
  rw [← hn] at hl ⊢
  have n0 : (0 : Int) ≤ (n : Int) := Int.natCast_nonneg _
  clear hI hT hC hm hn
  go_enter Tryd.func17, Tryd.ntmps17
  go_wp2_with fail
  go_loopg [5, 6, 7, 8] 21 (fun gk s5 s6 s7 s8 wr => ∃ i : Nat, s8 = .int .i64 i ∧ i ≤ n ∧ i ≤ 20 ∧ 21 - i ≤ gk ∧ s5 = .string (oct.tx (enL (goodL L i))) ∧ Hid (BO w (goodL L i) s6 s7 wr))
  case atStart => exact ⟨0, rfl, Nat.zero_le _, Nat.zero_le _, by omega, rfl, Lib.hid ⟨Below.refl _ _, OwnK.nil _ _ _ _, OwnC.nil _ _ _, fun k h => by simp [Value.ownBlock] at h⟩⟩
  case round =>
    obtain ⟨i, rfl, hi, hi20, hgk, rfl, HB⟩ := hrel
    have i0 : (0 : Int) ≤ (i : Int) := Int.natCast_nonneg _
    by_cases hlt : i < n ∧ i < 20
    · obtain ⟨hin, hi2⟩ := hlt
      obtain ⟨b, off, rfl, hbl, a0, a1⟩ := HC.out i (by have := HN.out; omega)
      have i1 : (i : Int) < (n : Int) := by omega
      have i2 : (i : Int) < 20 := by omega
      have hbk := HB.out.below
      replace a0 := (hbk.cell (p := ⟨b, off + i * 2, none⟩) hbl).trans a0
      replace a1 := (hbk.cell (p := ⟨b, off + i * 2 + 1, none⟩) hbl).trans a1
      have hmem : (L.getD i zrc).body.length ≤ 140737488355328 := by
        have hiL : i < L.length := by have := HN.out; omega
        rw [List.getD_eq_getElem?_getD, List.getElem?_eq_getElem hiL]
        exact HM.out _ (List.getElem_mem _)
      have hgn := goodL_next L (i := i) (by have := HN.out; omega)
      obtain ⟨r, hr⟩ : ∃ r, r = L.getD i zrc := ⟨_, rfl⟩
      rw [← hr] at a0 a1 hmem hgn
      have hgl := goodL_len L i
      have hgok := enL_le (goodL L i) fun r hr => (goodL_ok L i r hr).2
      obtain ⟨G, hG⟩ : ∃ G, G = goodL L i := ⟨_, rfl⟩
      rw [← hG] at HB hgn hgl hgok
      rw [← hG]
      have HGN := Lib.hid hgn
      obtain ⟨k, bd⟩ := r
      simp only at a0 a1 hmem
      have HP := Lib.hid fun u (h : T u) => HI.out.put k bd u h hmem
      have HBW := Lib.hid fun u (h : Below wr.heap.size wr u) => HB.out.next h
      have hTw := HI.out.next HT.out hbk
      have HTW := Lib.hid hTw
      obtain ⟨t, ht⟩ : ∃ t, t = oct.tx bd := ⟨_, rfl⟩
      simp only [recv] at HP
      rw [← ht] at HP a1
      have HTT := Lib.hid ht
      have hbw : Below w.heap.size w wr := hbk
      have hb2 : b < wr.heap.size := Nat.lt_of_lt_of_le hbl hbk.size
      clear hr hG hgn hbk hTw ht hmem hbw
      obtain ⟨A, hA⟩ : ∃ A, A = oct.tx (putR ⟨k, bd⟩).1 := ⟨_, rfl⟩
      obtain ⟨e, he⟩ : ∃ e, e = (putR ⟨k, bd⟩).2 := ⟨_, rfl⟩
      rw [← hA, ← he] at HP
      obtain ⟨t5, ht5⟩ : ∃ t, t = oct.tx (enL G) := ⟨_, rfl⟩
      have ht5s : t5.size = (enL G).length := by rw [ht5, oct.tx_size]
      rw [← ht5]
      by_cases hc : checkR ⟨k, bd⟩ = 0
      · rw [putR_good hc] at hA he
        subst he
        have hAs : A.size = (enR ⟨k, bd⟩).length := by rw [hA, oct.tx_size]
        by_cases h3 : A.size < 3000
        · have HG1 : Hid (goodL L (i + 1) = G ++ [⟨k, bd⟩]) := Lib.hid (by rw [HGN.out, if_pos (by unfold okR; simp only [hc]; simp; omega)])
          have h3z : (A.size : Int) < 3000 := by omega
          have gz : ¬ 9223372036854775807 < t5.size + A.size := by omega
          have HQ : Hid (t5 ++ A = oct.tx (enL (G ++ [⟨k, bd⟩]))) := Lib.hid (by rw [ht5, hA, tx_app, enL_snoc])
          have HA := Lib.hid hAs
          clear hA hAs ht5 ht5s hc HGN
          go_upto_region 10 with (go_at_call 9; (with_reducible refine (HP.out _ HTW.out).mono ?_); rintro e w1 ⟨rfl, hb1⟩; obtain ⟨v6', w2, v7', w3, hrun1, hrun2, hBO⟩ := (HBW.out w1 hb1).push ⟨k, bd⟩ (by omega); have HBO := Lib.hid hBO; have a0' := (hb1.cell (p := ⟨b, off + i * 2, none⟩) hb2).trans a0; have a1' := (hb1.cell (p := ⟨b, off + i * 2 + 1, none⟩) hb2).trans a1; clear hBO hb1)
          rw [HQ.out]
          have hqs : (oct.tx (enL (G ++ [⟨k, bd⟩]))).size = (enL (G ++ [⟨k, bd⟩])).length := oct.tx_size _
          replace hrun1 : (Builtin.append_ #[36, 36] 36 #[u6, .slice (some ⟨w1.heap.size, 0, none⟩) 1 1]).run Tryd.prog (w1.alloc (.cells #[.int .i64 k, .string (oct.tx bd)] 23)) = .ok v6' w2 := hrun1
          rw [← HTT.out] at hrun1
          rw [← hqs] at hrun2
          obtain ⟨q, hq⟩ : ∃ q, q = oct.tx (enL (G ++ [⟨k, bd⟩])) := ⟨_, rfl⟩
          rw [← hq] at hrun2
          rw [← hq]
          have HQQ := Lib.hid hq
          clear hqs hq
          go_wp2_with (first
            | ((with_reducible refine step_append (s := .tmp 39) (x := .tmp 44) (t := 36) (vs := ?as1) (vx := ?ax1) (v' := ?av1) (w' := ?aw1) ?ag1 ?ao1 ?ap1 ?aq1 ?ar1 ?ah1); (case ag1 => rfl); (case ao1 => rfl); (case ap1 => rfl); (case aq1 => rfl); (case ar1 => exact hrun1))
            | ((with_reducible refine step_append (s := .tmp 46) (x := .tmp 49) (t := 43) (vs := ?as2) (vx := ?ax2) (v' := ?av2) (w' := ?aw2) ?ag2 ?ao2 ?ap2 ?aq2 ?ar2 ?ah2); (case ag2 => rfl); (case ao2 => rfl); (case ap2 => rfl); (case aq2 => rfl); (case ar2 => exact hrun2)))
          go_roundg (20 - i)
          case measure => omega
          case rel => exact ⟨i + 1, by go_num, hin, hi2, by omega, by rw [HQQ.out, HG1.out], by rw [HG1.out]; exact HBO⟩
        · have HG1 : Hid (goodL L (i + 1) = G) := Lib.hid (by rw [HGN.out, if_neg (by unfold okR; simp; intro _; omega)])
          have h3z : ¬ (A.size : Int) < 3000 := by omega
          clear hA hAs ht5s hc HGN
          go_wp2_with (go_at_call 9; (with_reducible refine (HP.out _ HTW.out).mono ?_); rintro e w1 ⟨rfl, hb1⟩)
          go_roundg (20 - i)
          case measure => omega
          case rel => exact ⟨i + 1, by go_num, hin, hi2, by omega, by rw [HG1.out], by rw [HG1.out]; exact Lib.hid (HBW.out _ hb1)⟩
      · have HG1 : Hid (goodL L (i + 1) = G) := Lib.hid (by rw [HGN.out, if_neg (by unfold okR; simp [hc])])
        rw [putR_bad rfl hc] at he
        have hd : (e == 0) = false := by rw [he]; simpa using hc
        clear hA he ht5s hc HGN
        go_wp2_with (go_at_call 9; (with_reducible refine (HP.out _ HTW.out).mono ?_); rintro e w1 ⟨rfl, hb1⟩)
        go_roundg (20 - i)
        case measure => omega
        case rel => exact ⟨i + 1, by go_num, hin, hi2, by omega, by rw [HG1.out], by rw [HG1.out]; exact Lib.hid (HBW.out _ hb1)⟩
    · have HG20 : Hid (goodL L i = goodL L 20) := Lib.hid (by
        have := HN.out
        by_cases h : i = 20
        · rw [h]
        · rw [goodL_all L (by omega), goodL_all L (by omega)])
      rw [HG20.out] at HB
      rw [HG20.out]
      by_cases hin : (i : Int) < (n : Int)
      · have hi6 : ¬ (i : Int) < 20 := by omega
        go_wp2_with fail
        refine bodyPost_ret (results_t3 rfl _ _) rfl ⟨u6, u7, rfl, HB.out⟩
      · go_wp2_with fail
        refine bodyPost_ret (results_t3 rfl _ _) rfl ⟨u6, u7, rfl, HB.out⟩
theorem argok {L : List Rc} {i : Nat} : ∀ r ∈ goodL L i, checkR r = 0 := fun r hr => (goodL_ok L i r hr).1
theorem all20_len (L : List Rc) : (enL (goodL L 20)).length ≤ 60000 := by
  have h1 := enL_le (goodL L 20) fun r hr => (goodL_ok L 20 r hr).2
  have h2 := goodL_len L 20
  omega
set_option maxHeartbeats 4000000 in
set_option maxRecDepth 100000 in
theorem back_walk (hI : RcIs T) {L : List Rc} {v : Value} {w : World} (hT : T w) (hR : RcV w v L) (hm : ∀ r ∈ L, r.body.length ≤ 140737488355328) (hl : L.length ≤ 9223372036854775807) :
    Calls Tryd.prog 5 #[v] w fun e w' => e = .returned (.bool true) ∧ Below w.heap.size w w' := by
  have HI := Lib.hid hI
  have HT := Lib.hid hT
  have HB := Lib.hid (bytes_any hI hT hR hm hl)
  have hb := all_back (goodL L 20) argok
  have hle := all20_len L
  have hgl := goodL_len L 20
  obtain ⟨ad, cap, rfl, -⟩ := hR
  obtain ⟨G, hG⟩ : ∃ G, G = goodL L 20 := ⟨_, rfl⟩
  rw [← hG] at HB hb hle hgl
  obtain ⟨q, hq⟩ : ∃ q, q = oct.tx (enL G) := ⟨_, rfl⟩
  have hqs : q.size = (enL G).length := by rw [hq, oct.tx_size]
  have hql : q.data.toList = enL G := by rw [hq, oct.tx_list]
  rw [← hq] at HB
  have HA := Lib.hid fun u (h : T u) => HI.out.all q u h (by omega)
  rw [hql, hb] at HA
  simp only at HA
  rw [← hqs] at HA
  clear hI hT hm hG hb hle hq hqs hql
  go_enter Tryd.func5, Tryd.ntmps5
  go_wp2_with (first
    | (go_at_call 17; (with_reducible refine HB.out.mono ?_); rintro e w1 ⟨v6, v7, rfl, hBO⟩; have B1 := Lib.hid hBO; clear hBO)
    | (go_at_call 14; (with_reducible refine (HA.out _ (HI.out.next HT.out B1.out.below)).mono ?_); rintro e w2 ⟨v2, rfl, hO2, hb2⟩; have B2 := Lib.hid (B1.out.next hb2); have HS := Lib.hid (same_eq (OwnR.rcv hO2) (OwnR.rcv B2.out.r) (by omega)); clear hO2 hb2)
    | (go_at_call 16; (with_reducible refine HS.out.mono ?_); rintro e w3 ⟨rfl, hb3⟩; have B3 := Lib.hid (B2.out.next hb3); clear hb3)
    | (go_at_call 8; (with_reducible refine (awake_any HI.out _ (HI.out.next HT.out B3.out.below)).mono ?_); rintro e w4 ⟨rfl, hb4⟩))
  go_ret
  exact ⟨rfl, B3.out.below.trans (hb4.mono B3.out.below.size)⟩
end
end Go.Proofs.YtdnkbgiellhfnaaDoor.rcd
