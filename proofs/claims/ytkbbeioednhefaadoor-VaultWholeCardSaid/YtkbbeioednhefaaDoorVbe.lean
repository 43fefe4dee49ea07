/-
  The landed vault: what stands behind load; Load, New.
-/
import Derived.Test.YtkbbeioednhefaaDoorVbd
import Derived.Test.YtkbbeioednhefaaDoorVbs
namespace Go.Proofs.YtkbbeioednhefaaDoor.vt
open Go.RowKit Go.Proofs.YtkbbeioednhefaaDoor.mem Go.Proofs.YtkbbeioednhefaaDoor.sha Go.Proofs.YtkbbeioednhefaaDoor.strx Go.Proofs.YtkbbeioednhefaaDoor.rows Go.Proofs.YtkbbeioednhefaaDoor.ids Go.Proofs.YtkbbeioednhefaaDoor.rcd Go.Proofs.YtkbbeioednhefaaDoor.jn Go.Proofs.YtkbbeioednhefaaDoor.txl

/-- the two files as they were opened make a vault -/
theorem VtOf.made {G A B : Nat → Prop} {w : World} {g : Nat} {v : Vt} {pa pb ba bb : Value} (hb : VBlk w g (.pointer (some ⟨g, 0, none⟩)) pa pb v.use v.no) (ja : JnL A w pa ba v.a) (jb : JnL B w pb bb v.b)
    (ha : ∀ k, A k → G k ∧ k ≠ g ∧ k < w.heap.size) (hb2 : ∀ k, B k → G k ∧ k ≠ g ∧ k < w.heap.size) (hab : ∀ k, A k → ¬ B k) (hg : G g ∧ g ≠ 0) (hs : Snd v) : VtL G w (.pointer (some ⟨g, 0, none⟩)) v := by
  by_cases hu : v.use = 0
  · refine ⟨g, pa, pb, ba, bb, A, B, rfl, ⟨?_, ?_, ?_, ha, hb2, hab, hg, hs⟩⟩
    · rw [if_pos hu, if_pos hu]; exact hb
    · unfold Vt.cur; rw [if_pos hu]; exact ja
    · unfold Vt.othr; rw [if_pos hu]; exact jb
  · refine ⟨g, pb, pa, bb, ba, B, A, rfl, ⟨?_, ?_, ?_, hb2, ha, fun k h1 h2 => hab k h2 h1, hg, hs⟩⟩
    · rw [if_neg hu, if_neg hu]; exact hb
    · unfold Vt.cur; rw [if_neg hu]; exact jb
    · unfold Vt.othr; rw [if_neg hu]; exact ja
theorem pick_a (x y : Jr) : (pickV x y).a = x := by unfold pickV; split <;> rfl
theorem pick_b (x y : Jr) : (pickV x y).b = y := by unfold pickV; split <;> rfl
set_option maxHeartbeats 4000000 in
set_option maxRecDepth 100000 in
theorem vLoad_any (s t : ByteArray) (hs : s.size ≤ 100000) (ht : t.size ≤ 100000) (w : World) (hT : crc.Tab w) : Calls Tryd.prog 48 #[.string s, .string t] w fun e w' => ∃ p l, e = .returned (.tuple #[p, l, .int .i64 (loadV s.data.toList t.data.toList).2.2]) ∧ Below w.heap.size w w' ∧
    ((¬ (loadV s.data.toList t.data.toList).2.2 = 0 ∧ p = .pointer none ∧ TxA w' (fun _ => True) l []) ∨ ((loadV s.data.toList t.data.toList).2.2 = 0 ∧ ∃ pa G', p = .pointer (some pa) ∧ VtL G' w' p (loadV s.data.toList t.data.toList).1 ∧ New G' w' ∧ (∀ k, G' k → w.heap.size ≤ k) ∧ TxA w' (fun k => w.heap.size ≤ k ∧ ¬ G' k) l (loadV s.data.toList t.data.toList).2.1)) := by
  have hsz0 := hT.1
  obtain ⟨g, hg⟩ : ∃ S, S = w.heap.size := ⟨_, rfl⟩
  obtain ⟨w1, hw1⟩ : ∃ u, u = w.alloc (.cells #[.pointer none, .pointer none, .pointer none, .int .i64 0, .int .i64 0] 74) := ⟨_, rfl⟩
  have hB1 : Below w.heap.size w w1 := by rw [hw1]; exact (Below.refl _ w).alloc (Nat.le_refl _) _
  have hs1 : w1.heap.size = g + 1 := by rw [hw1, hg]; simp
  have hV1 : VBlk w1 g (.pointer none) (.pointer none) (.pointer none) 0 0 := by rw [hw1, hg]; exact Blk.new w _ _
  obtain ⟨w2, hw2⟩ : ∃ u, u = w1.alloc (.cells #[.string s, .string t] 9) := ⟨_, rfl⟩
  have hB2 : Below w1.heap.size w1 w2 := by rw [hw2]; exact (Below.refl _ w1).alloc (Nat.le_refl _) _
  have hK2 : Blk w2 (g + 1) 9 #[.string s, .string t] := by rw [hw2, ← hs1]; exact Blk.new w1 _ _
  have hV2 : VBlk w2 g (.pointer none) (.pointer none) (.pointer none) 0 0 := Blk.below hV1 hB2 (Blk.lt hV1)
  have hs2 : w2.heap.size = g + 2 := by rw [hw2]; simp [hs1]
  have hBB : Below w.heap.size w w2 := hB1.trans (hB2.mono hB1.size)
  have HL := Lib.hid (vload_any g (g + 1) _ _ _ 0 0 s t hs ht w2 (jn_is.next hT hBB) hV2 (by omega) hK2 (by omega))
  have HW1 := Lib.hid hw1
  have HW2 := Lib.hid hw2
  have HS1 := Lib.hid hs1
  have HG := Lib.hid hg
  have HBB := Lib.hid (And.intro hBB (And.intro hs2 (And.intro hsz0 (Blk.lt hV2))))
  have hld : loadV s.data.toList t.data.toList = if noneV (openJ s.data.toList) (openJ t.data.toList) then (zvt, [], 4) else (pickV (openJ s.data.toList) (openJ t.data.toList), heldV (pickV (openJ s.data.toList) (openJ t.data.toList)).cur.l, 0) := rfl
  have hpk := Snd.pick s.data.toList t.data.toList
  unfold LdAns at HL
  obtain ⟨S, hS⟩ : ∃ S, S = s.data.toList := ⟨_, rfl⟩
  obtain ⟨U, hU⟩ : ∃ S, S = t.data.toList := ⟨_, rfl⟩
  rw [← hS, ← hU] at HL hld hpk ⊢
  have HLD := Lib.hid hld
  have HPK := Lib.hid hpk
  clear hsz0 hg hw1 hB1 hs1 hV1 hw2 hB2 hK2 hV2 hs2 hBB hT hs ht hld hpk hS hU
  obtain ⟨E, hE⟩ : ∃ E, E = (loadV S U).2.2 := ⟨_, rfl⟩
  rw [← hE] at HL ⊢
  have HE := Lib.hid hE
  clear hE
  go_enter Tryd.func48, Tryd.ntmps48
  go_upto_region 2 with fail
  refine wp_at HW1.out.symm ?_
  rw [← HG.out]
  clear HW1
  go_upto_region 3 with (go_at_call 52; (refine opn.lcalls_at HW2.out.symm ?_); (rw [HS1.out]); (with_reducible refine HL.out.mono ?_); rintro e w3 ⟨m, rfl, ht3, hr3⟩; have HT3 := Lib.hid ht3; have HR3 := Lib.hid hr3; clear ht3 hr3)
  have hv : VBlk w2 g (.pointer none) (.pointer none) (.pointer none) 0 0 ∨ True := .inr trivial
  clear hv
  rcases HR3.out with ⟨hN, rfl⟩ | ⟨hN, pa, pb, ba, bb, A, B, hb3, ja, jb, ha, hb, hab, hm⟩
  · have hE : E = 4 := by rw [HE.out, HLD.out, if_pos hN]
    have HEE := Lib.hid hE
    subst hE
    have HNN := Lib.hid hN
    clear hN HR3 HL
    go_wp2_with fail
    refine bodyPost_ret (results_tmp3 rfl _ _ _) rfl ⟨_, _, rfl, HBB.out.1.trans (HT3.out.below fun k hk => hk.elim (fun e => by rw [e, HG.out]; exact Nat.le_refl _) fun e => Nat.le_trans HBB.out.1.size e), rfl, TxA.nil _ _⟩
  · have hE : E = 0 := by rw [HE.out, HLD.out, if_neg hN]
    obtain ⟨ad, cap, hmf⟩ := OwnK.form hm
    subst hmf
    have HM := Lib.hid hm
    have HVB := Lib.hid hb3
    have HJA := Lib.hid ja
    have HJB := Lib.hid jb
    have HA := Lib.hid (And.intro ha (And.intro hb hab))
    have c0 := hb3.c0
    have f0 := Blk.frozen hb3 0
    have HNN := Lib.hid hN
    have HLE := Lib.hid (show loadV S U = (pickV (openJ S) (openJ U), heldV (pickV (openJ S) (openJ U)).cur.l, 0) by rw [HLD.out, if_neg hN])
    subst hE
    clear hN HR3 HL hb3 ja jb ha hb hab hm
    go_wp2_with fail
    rw [HLE.out]
    obtain ⟨w4, hw4⟩ : ∃ z, z = w3.setCell ⟨g, 0, none⟩ (.pointer (some ⟨g, 0, none⟩)) := ⟨_, rfl⟩
    have ht4 : Turn (· = g) w3 w4 := by rw [hw4]; exact set_turn _
    have hv4 := Blk.set_ HVB.out 0 (.pointer (some ⟨g, 0, none⟩))
    rw [← hw4] at hv4 ⊢
    clear hw4
    obtain ⟨ha, hb, hab⟩ := HA.out
    obtain ⟨hBw, hs2, hs0, hgl⟩ := HBB.out
    have hGe := HG.out
    have hz3 := HT3.out.size
    have hz4 := ht4.size
    have hm4 : OwnT w4 _ _ _ := OwnK.turn HM.out ht4 fun k hk e => by have := (HM.out.2.2 k hk).1; omega
    refine bodyPost_ret (results_tmp3 rfl _ _ _) rfl ⟨_, _, rfl, (hBw.trans (HT3.out.below fun k hk => hk.elim (fun e => by omega) fun e => by omega)).trans ((ht4.below (B := w.heap.size) fun k hk => by omega)), ⟨_, rfl⟩, fun k => A k ∨ B k ∨ k = g ∨ w4.heap.size ≤ k,
      VtOf.made (A := A) (B := B) (ba := ba) (bb := bb) hv4 ?_ ?_ (fun k hk => ⟨.inl hk, by have := (ha k hk).1; omega, by have := (ha k hk).2; omega⟩) (fun k hk => ⟨.inr (.inl hk), by have := (hb k hk).1; omega, by have := (hb k hk).2; omega⟩) hab ⟨.inr (.inr (.inl rfl)), by omega⟩ (HPK.out HNN.out), fun k hk => .inr (.inr (.inr hk)), ?_, ?_⟩
    · rw [pick_a]; exact jn_is.turn HJA.out ht4 fun k _ hk e => by have := (ha k hk).1; omega
    · rw [pick_b]; exact jn_is.turn HJB.out ht4 fun k _ hk e => by have := (hb k hk).1; omega
    · intro k hk
      rcases hk with h | h | h | h
      · have := (ha k h).1; omega
      · have := (hb k h).1; omega
      · omega
      · omega
    · have hmx := OwnT.txa hm4
      rw [List.length_map] at hmx
      refine hmx.mono fun k hk h => ⟨by omega, fun hh => ?_⟩
      rcases hh with h1 | h1 | h1 | h1
      · exact h.2.1 h1
      · exact h.2.2 h1
      · omega
      · omega
theorem new_s : loadV (fileJ (snapG (-1 + 1) []) 0).s [] = (⟨fileJ (firstG []) 2, j0, 0, 0⟩, [], 0) ∧ True := by
  refine ⟨?_, trivial⟩
  have h1 : openJ (fileJ (snapG (-1 + 1) []) 0).s = fileJ (firstG []) 2 := open_file (snapG 0 []) (snap_ok fun s hs => by cases hs)
  have h2 : numV (fileJ (firstG []) 2).l = 0 := first_num []
  have h3 : numV j0.l = -1 := rfl
  unfold loadV
  rw [h1, openJ_nil, if_neg (by unfold noneV; rw [h2]; omega)]
  unfold pickV
  rw [h2, h3, if_neg (by decide)]
  rfl
theorem new_load : ∃ S, (layJ (-1) []).s = S ∧ S.length ≤ 100 ∧ (loadV S []).2.2 = 0 ∧ (loadV S []).1 = newV := by
  refine ⟨_, rfl, ?_, ?_, ?_⟩
  · rw [lay_file (-1) [] (fun s hs => by cases hs)]
    decide +kernel
  · rw [lay_file (-1) [] (fun s hs => by cases hs), new_s.1]
  · rw [lay_file (-1) [] (fun s hs => by cases hs), new_s.1, new_file]
set_option maxHeartbeats 4000000 in
set_option maxRecDepth 100000 in
theorem vnew_any (w : World) (hT : crc.Tab w) : Calls Tryd.prog 25 #[] w fun e w' => ∃ p, e = .returned p ∧ VtL (w.heap.size ≤ ·) w' p newV ∧ Below w.heap.size w w' := by
  obtain ⟨S, hS, hl, hE, hV⟩ := new_load
  have hSN := vsnapshot_any (-1) (by decide) (by decide) (fun _ => True) (.slice none 0 0) [] w hT (TxA.nil _ _) ⟨by decide, fun s hs => by cases hs⟩
  rw [show (-1 : Int) + 1 = 0 from rfl] at hSN
  have HSN := Lib.hid hSN
  obtain ⟨J, hJ⟩ : ∃ J, J = layJ (-1) [] := ⟨_, rfl⟩
  rw [← hJ] at HSN hS
  have HDT := Lib.hid fun G p b u (hb : Below w.heap.size w u) (h : JnL G u p b J) => jn_is.data G p b J u (jn_is.next hT hb) h
  rw [hS] at HDT
  obtain ⟨t, ht⟩ : ∃ t, t = oct.tx S := ⟨_, rfl⟩
  rw [← ht] at HDT
  have htl : t.data.toList = S := by rw [ht, oct.tx_list]
  have htz : t.size ≤ 100000 := by rw [size_list, htl]; omega
  have hLD := fun u (hb : Below w.heap.size w u) => vLoad_any t ⟨#[]⟩ htz (by decide) u (jn_is.next hT hb)
  rw [htl, show (⟨#[]⟩ : ByteArray).data.toList = [] from rfl, hE, hV] at hLD
  have HLD := Lib.hid hLD
  clear hS hl hE hV hSN hJ ht htl htz hLD hT
  go_enter Tryd.func25, Tryd.ntmps25
  go_wp2_with (first
    | (go_at_call 49; (with_reducible refine HSN.out.mono ?_); rintro e w1 ⟨p, b, rfl, hj1, hb1⟩; obtain ⟨gp, rfl, d0, -, -⟩ := JnL.form hj1; have HJ1 := Lib.hid hj1; have HB1 := Lib.hid hb1; clear hj1 hb1)
    | (go_at_call 24; (with_reducible refine (HDT.out _ _ _ _ HB1.out HJ1.out).mono ?_); rintro e w2 ⟨rfl, hb2⟩; have HB2 := Lib.hid (HB1.out.trans (hb2.mono HB1.out.size)); clear hb2)
    | (go_at_call 48; (with_reducible refine (HLD.out _ HB2.out).mono ?_); rintro e w3 ⟨p3, l3, rfl, hb3, hr3⟩; have HB3 := Lib.hid hb3; have HR3 := Lib.hid hr3; clear hb3 hr3))
  go_ret
  rcases HR3.out with ⟨h, -⟩ | ⟨-, pa, G', rfl, hv, hn, hg, -⟩
  · exact (h trivial).elim
  obtain ⟨g, pc, po, bc, bo, A, B, hp, hv⟩ := hv
  have hz := HB2.out.size
  exact ⟨_, rfl, ⟨g, pc, po, bc, bo, A, B, hp, hv.mono fun k hk => Nat.le_trans hz (hg k hk)⟩, HB2.out.trans (HB3.out.mono hz)⟩
end Go.Proofs.YtkbbeioednhefaaDoor.vt
