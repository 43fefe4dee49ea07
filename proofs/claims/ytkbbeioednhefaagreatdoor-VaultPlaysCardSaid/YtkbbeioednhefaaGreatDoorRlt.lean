/-
  The landed record: All.
-/
import Derived.Test.YtkbbeioednhefaaGreatDoorRls
import Derived.RangeFuncNested
namespace Go.Proofs.YtkbbeioednhefaaGreatDoor.rcd
open Go.RowKit Go.Shelf Go.Proofs.YtkbbeioednhefaaGreatDoor.mem Go.Proofs.YtkbbeioednhefaaGreatDoor.sha Go.Proofs.YtkbbeioednhefaaGreatDoor.opn Go.Proofs.YtkbbeioednhefaaGreatDoor.rows Go.Proofs.YtkbbeioednhefaaGreatDoor.ids
attribute [local go_sem] Oper.semAt_some

theorem records_any (s : ByteArray) (w : World) : Calls Tryz.prog 94 #[.string s] w fun e w' => e = .returned (.func (.func 101) #[] #[.pointer (some ⟨w.heap.size, 0, none⟩)]) ∧ w' = w.alloc (.cells #[.string s] 9) := by
  go_enter Tryz.func94, Tryz.ntmps94
  go_wp2
  go_ret
  exact ⟨rfl, rfl⟩
theorem items_done {l : List UInt8} {ys : List RE} (h : ys.map (·.1) = items l) (hz : ∀ x ∈ ys, x.1.2 = 0) : (allT l).2.2 = 0 ∧ ys.map (·.1.1) = (allT l).1 ∧ sumS ys = (allT l).2.1 := by
  have he : (allT l).2.2 = 0 := by
    by_cases he : (allT l).2.2 = 0
    · exact he
    · exfalso
      unfold items at h
      rw [if_neg he] at h
      have hm : (zrc, (allT l).2.2) ∈ ys.map (·.1) := by rw [h]; exact List.mem_append_right _ (List.mem_singleton.2 rfl)
      obtain ⟨x, hx, hxe⟩ := List.mem_map.1 hm
      have := hz x hx
      rw [hxe] at this
      exact he this
  have hg : ys.map (·.1.1) = (allT l).1 := by
    unfold items at h
    rw [if_pos he, List.append_nil] at h
    have := congrArg (List.map Prod.fst) h
    rw [List.map_map, List.map_map] at this
    rw [show ((allT l).1.map (Prod.fst ∘ fun r => (r, (0 : Int)))) = (allT l).1 from List.map_id _] at this
    exact this
  refine ⟨he, hg, ?_⟩
  rw [allT_at l.length l (Nat.le_refl _), ← hg, List.map_map]
  rfl
theorem items_stop {l : List UInt8} {ps : List RE} {x : RE} (h : (ps ++ [x]).map (·.1) <+: items l) (hx : x.1.2 ≠ 0) : (allT l).2.2 = x.1.2 ∧ ps.map (·.1.1) = (allT l).1 ∧ sumS ps = (allT l).2.1 := by
  obtain ⟨r, hr⟩ := h
  rw [List.map_append, List.append_assoc] at hr
  unfold items at hr
  have key : ps.map (·.1) = (allT l).1.map (fun r => (r, 0)) ∧ (if (allT l).2.2 = 0 then [] else [(zrc, (allT l).2.2)]) = x.1 :: r := by
    rcases List.append_eq_append_iff.1 hr with ⟨a, h1, h2⟩ | ⟨c, h1, h2⟩
    · match a with
      | [] => exact ⟨by rw [h1, List.append_nil], h2.symm⟩
      | b :: a =>
        exfalso
        have hb : x.1 = b := by injection h2
        have hm : b ∈ (allT l).1.map (fun r => (r, (0 : Int))) := by rw [h1]; exact List.mem_append_right _ List.mem_cons_self
        obtain ⟨y, _, hy⟩ := List.mem_map.1 hm
        rw [hb, ← hy] at hx
        exact hx rfl
    · match c with
      | [] => exact ⟨by rw [h1, List.append_nil], h2⟩
      | b :: c =>
        exfalso
        have := congrArg List.length h2
        split at this
        · simp at this
        · simp at this
  obtain ⟨k1, k2⟩ := key
  have hg : ps.map (·.1.1) = (allT l).1 := by
    have := congrArg (List.map Prod.fst) k1
    rw [List.map_map, List.map_map] at this
    rw [show ((allT l).1.map (Prod.fst ∘ fun r => (r, (0 : Int)))) = (allT l).1 from List.map_id _] at this
    exact this
  refine ⟨?_, hg, ?_⟩
  · split at k2
    · cases k2
    · injection k2 with k2 _
      rw [← k2]
  · rw [allT_at l.length l (Nat.le_refl _), ← hg, List.map_map]
    rfl
theorem results_c3 {fn : Func} {p q r : Tmp} (h : fn.results = #[.cell p 27, .cell q 3, .cell r 37]) (tmps : Array Value) (w : World) (g1 g2 g3 : Nat) (v1 v2 v3 : Value)
    (hp : tmps.getD p undef = .pointer (some ⟨g1, 0, none⟩)) (hq : tmps.getD q undef = .pointer (some ⟨g2, 0, none⟩)) (hr : tmps.getD r undef = .pointer (some ⟨g3, 0, none⟩))
    (h1 : w.cell? ⟨g1, 0, none⟩ = some v1) (h2 : w.cell? ⟨g2, 0, none⟩ = some v2) (h3 : w.cell? ⟨g3, 0, none⟩ = some v3) :
    (results fn tmps).run Tryz.prog w = .ok (.tuple #[v1, v2, v3]) w := by
  have hp' : tmps[p]?.getD undef = .pointer (some ⟨g1, 0, none⟩) := by simpa using hp
  have hq' : tmps[q]?.getD undef = .pointer (some ⟨g2, 0, none⟩) := by simpa using hq
  have hr' : tmps[r]?.getD undef = .pointer (some ⟨g3, 0, none⟩) := by simpa using hr
  simp [results, h, hp', hq', hr', go_sem, h1, h2, h3]
set_option maxHeartbeats 8000000 in
set_option maxRecDepth 100000 in
theorem lall_any (s : ByteArray) (w : World) (hT : crc.Tab w) (hs : s.size ≤ 800000) :
    Calls Tryz.prog 84 #[.string s] w fun e w' => ∃ v, e = .returned (.tuple #[v, .int .i64 ((allT s.data.toList).2.1 : Int), .int .i64 (allT s.data.toList).2.2]) ∧ OwnR w' (w.heap.size ≤ ·) v (allT s.data.toList).1 ∧ Below w.heap.size w w' := by
  refine (callsIn_wide (n := 5)).1 ?_
  refine callsIn_of_wp_marks Tryz.func84 rfl trivial ?_ rfl
  simp only [Tryz.ntmps84, List.size_toArray, List.length_cons, List.length_nil, Nat.reduceAdd, Nat.reduceSub, Array.replicate_succ, Array.replicate_zero, List.push_toArray, List.append_toArray, List.nil_append, List.cons_append]
  gi_wp2_with (refine ⟨trivial, ?_⟩; gi_at_call 94; (refine (callsIn_wide.2 (records_any _ _)).mono ?_); rintro e w2 ⟨rfl, rfl⟩)
  obtain ⟨n0, hn0⟩ : ∃ n, n = w.heap.size := ⟨_, rfl⟩
  rw [← hn0]
  obtain ⟨W0, hW0⟩ : ∃ u, u = (((((w.alloc (.cells #[.slice none 0 0] 27)).alloc (.cells #[.int .i64 0] 3)).alloc (.cells #[.int .i64 0] 37)).alloc (.cells #[.slice none 0 0] 27)).alloc (.cells #[.int .i64 0] 3)).alloc (.cells #[.string s] 9) := ⟨_, rfl⟩
  rw [← hW0]
  have hsz : W0.heap.size = n0 + 6 := by rw [hW0, hn0]; simp
  have b0 : Blk W0 n0 27 #[.slice none 0 0] := by rw [hW0, hn0]; exact (((((Blk.new w _ _).alloc _).alloc _).alloc _).alloc _).alloc _
  have b1 : Blk W0 (n0 + 1) 3 #[.int .i64 0] := by rw [hW0, hn0]; exact ((((Blk.at_ (by simp) _ _).alloc _).alloc _).alloc _).alloc _
  have b2 : Blk W0 (n0 + 1 + 1) 37 #[.int .i64 0] := by rw [hW0, hn0]; exact (((Blk.at_ (by simp) _ _).alloc _).alloc _).alloc _
  have b3 : Blk W0 (n0 + 1 + 1 + 1) 27 #[.slice none 0 0] := by rw [hW0, hn0]; exact ((Blk.at_ (by simp) _ _).alloc _).alloc _
  have b4 : Blk W0 (n0 + 1 + 1 + 1 + 1) 3 #[.int .i64 0] := by rw [hW0, hn0]; exact (Blk.at_ (by simp) _ _).alloc _
  have b5 : Blk W0 (n0 + 1 + 1 + 1 + 1 + 1) 9 #[.string s] := by rw [hW0, hn0]; exact Blk.at_ (by simp) _ _
  have hB : Below n0 w W0 := by rw [hW0, hn0]; exact ((((((Below.refl _ _).alloc (Nat.le_refl _) _).alloc (by simp) _).alloc (by simp; omega) _).alloc (by simp; omega) _).alloc (by simp; omega) _).alloc (by simp; omega) _
  have hTW : crc.Tab W0 := hT.next (by rw [← hn0]; exact hB)
  have HN0 := Lib.hid hn0
  have HSZ := Lib.hid hsz
  clear hW0 hT hn0
  refine wpIn_rangeFunc_ownH rfl (by decide) (gf := 101) (lb := #[.pointer (some ⟨n0 + 1 + 1 + 1 + 1 + 1, 0, none⟩)]) rfl trivial (enters_of Tryz.func101 (by kernel_rfl) rfl)
    (recs_stops 3 (n0 + 1 + 1 + 1 + 1 + 1) s (by omega) W0 (b5.cell 0) (by omega) hTW) KpR.trans
    (fun W l o o' hl _ _ _ => ⟨by simp, World.putObj_heap_other (by omega), World.putObj_heap_other (by omega)⟩) (Below.refl _ _) (fun _ => rfl)
    (AllIv n0 w) (AllXv n0 w) (allIv_own HN0.out (by omega)) (allXv_own HN0.out (by omega))
    ⟨_, b0, b1, b2, b3, b4, OwnK.nil _ _ _ _, (fun _ h => by cases h), hB, by omega⟩
    (fun x a' W => ∃ Bx vx, n0 + 6 ≤ Bx ∧ Blk W Bx 66 #[.int .i64 x.1.1.k, .string (oct.tx x.1.1.body)] ∧ Blk W (n0 + 1 + 1 + 1) 27 #[vx] ∧ vx.ownBlock ≠ some Bx ∧ a' = { tmps := #[.string s, undef, .pointer (some ⟨n0, 0, none⟩), .pointer (some ⟨n0 + 1, 0, none⟩), .pointer (some ⟨n0 + 1 + 1, 0, none⟩), .pointer (some ⟨n0 + 1 + 1 + 1, 0, none⟩), .pointer (some ⟨n0 + 1 + 1 + 1 + 1, 0, none⟩), .pointer (some ⟨Bx, 0, none⟩), .int .i64 x.1.2, .string s, .func (.func 101) #[] #[.pointer (some ⟨n0 + 1 + 1 + 1 + 1 + 1, 0, none⟩)], recv x.1.1, .int .i64 x.1.2, undef, undef, undef, undef, undef, undef, undef, undef, undef, undef, undef, undef, undef, undef, undef, undef, undef], defers := [] })
    (fun x a' _ X Y row hs hg hr => by
      obtain ⟨Bx, vx, h1, h2, h4, h3⟩ := hs
      obtain ⟨ht, hn⟩ := own_turn hg hr
      exact ⟨Bx, vx, h1, h2.turn ht (hn _ _ _ _ h2), h4.turn ht (hn _ _ _ _ h4), h3⟩)
    ?assign ?body ?done ?stop
  case assign =>
    rintro l pre x W K ⟨vo, hJ⟩ hK
    have hb := hJ.below.size
    have hbl : Below W.heap.size W (W.alloc (.cells #[.int .i64 x.1.1.k, .string (oct.tx x.1.1.body)] 66)) := (Below.refl _ W).alloc (Nat.le_refl _) _
    have hK2 := hK
    clear hK
    dsimp only [encR, recv]
    gi_wp2
    refine hK2 _ _ ((KeepsOthers.alloc _ _).from _) (KpR.below hbl (by have := hJ.siz; omega)) ⟨vo, hJ.r2.alloc _, hJ.r3.alloc _, hJ.r4.alloc _, hJ.lb.alloc _, hJ.ab.alloc _, OwnK.next hJ.own hbl, hJ.zs, hJ.below.trans (hbl.mono (by have := hJ.siz; omega)), Nat.le_trans hJ.siz hbl.size⟩ ⟨W.heap.size, vo, hJ.siz, Blk.new W _ _, hJ.lb.alloc _, fun h => by have := OwnK.lt hJ.own h; omega, rfl⟩
  case body =>
    rintro l pre x a' W hl ⟨r, hr⟩ ⟨vo, hJ⟩ ⟨Bx, vx, hBx, bX, bV, hBo, rfl⟩ hlt
    have hve : vx = vo := by
      have e := hJ.lb.cell 0
      rw [bV.cell 0] at e
      exact Option.some.inj e
    subst hve
    clear bV
    clear b0 b1 b2 b3 b4 b5 hsz hTW hr
    obtain ⟨ad, cap, hform⟩ := OwnK.form hJ.own
    obtain ⟨ln, hln⟩ : ∃ n, n = (pre.map (·.1.1)).length := ⟨_, rfl⟩
    rw [List.length_map, ← hln] at hform
    subst hform
    have HLN := Lib.hid hln
    clear hln
    by_cases he : x.1.2 = 0
    case neg =>
      have hd : (x.1.2 != 0) = true := bne_iff_ne.2 he
      have HX := Lib.hid he
      have HJ := Lib.hid hJ
      clear he hJ
      gi_upto_region 7 with fail
      have hHeld0 : True := trivial
      have hc0 : W.drew.cell? ⟨n0, 0, none⟩ = some (.slice none 0 0) := HJ.out.r2.cell 0
      have hf0 : W.drew.frozen? ⟨n0, 0, none⟩ = false := HJ.out.r2.frozen 0
      have lb0 : Blk W.drew (n0 + 1 + 1 + 1) 27 #[.slice ad ln cap] := HJ.out.lb
      have ab0 : Blk W.drew (n0 + 1 + 1 + 1 + 1) 3 #[.int .i64 (sumS pre : Nat)] := HJ.out.ab
      have lb1 := lb0.far (p := ⟨n0, 0, none⟩) (show n0 + 1 + 1 + 1 ≠ n0 by omega) (.slice ad ln cap)
      have ab1 := ab0.far (p := ⟨n0, 0, none⟩) (show n0 + 1 + 1 + 1 + 1 ≠ n0 by omega) (.slice ad ln cap)
      have r20 : Blk W.drew n0 27 #[.slice none 0 0] := HJ.out.r2
      have r21 : Blk (W.drew.setCell ⟨n0, 0, none⟩ (.slice ad ln cap)) n0 27 #[.slice ad ln cap] := r20.set_ 0 _
      have r30 : Blk W.drew (n0 + 1) 3 #[.int .i64 0] := HJ.out.r3
      have r31 := r30.far (p := ⟨n0, 0, none⟩) (show n0 + 1 ≠ n0 by omega) (.slice ad ln cap)
      have r40 : Blk W.drew (n0 + 1 + 1) 37 #[.int .i64 0] := HJ.out.r4
      have r41 := r40.far (p := ⟨n0, 0, none⟩) (show n0 + 1 + 1 ≠ n0 by omega) (.slice ad ln cap)
      have hc1 : W.cell? ⟨n0 + 1, 0, none⟩ = some (.int .i64 0) := HJ.out.r3.cell 0
      have hf1 : W.frozen? ⟨n0 + 1, 0, none⟩ = false := HJ.out.r3.frozen 0
      have lb2 := lb1.far (p := ⟨n0 + 1, 0, none⟩) (show n0 + 1 + 1 + 1 ≠ n0 + 1 by omega) (.int .i64 (sumS pre : Nat))
      have ab2 := ab1.far (p := ⟨n0 + 1, 0, none⟩) (show n0 + 1 + 1 + 1 + 1 ≠ n0 + 1 by omega) (.int .i64 (sumS pre : Nat))
      have r22 := r21.far (p := ⟨n0 + 1, 0, none⟩) (show n0 ≠ n0 + 1 by omega) (.int .i64 (sumS pre : Nat))
      have r32 : Blk ((W.drew.setCell ⟨n0, 0, none⟩ (.slice ad ln cap)).setCell ⟨n0 + 1, 0, none⟩ (.int .i64 (sumS pre : Nat))) (n0 + 1) 3 #[.int .i64 (sumS pre : Nat)] := r31.set_ 0 _
      have r42 := r41.far (p := ⟨n0 + 1, 0, none⟩) (show n0 + 1 + 1 ≠ n0 + 1 by omega) (.int .i64 (sumS pre : Nat))
      have hc2 : W.cell? ⟨n0 + 1 + 1, 0, none⟩ = some (.int .i64 0) := HJ.out.r4.cell 0
      have hf2 : W.frozen? ⟨n0 + 1 + 1, 0, none⟩ = false := HJ.out.r4.frozen 0
      have lb3 := lb2.far (p := ⟨n0 + 1 + 1, 0, none⟩) (show n0 + 1 + 1 + 1 ≠ n0 + 1 + 1 by omega) (.int .i64 x.1.2)
      have ab3 := ab2.far (p := ⟨n0 + 1 + 1, 0, none⟩) (show n0 + 1 + 1 + 1 + 1 ≠ n0 + 1 + 1 by omega) (.int .i64 x.1.2)
      have r23 := r22.far (p := ⟨n0 + 1 + 1, 0, none⟩) (show n0 ≠ n0 + 1 + 1 by omega) (.int .i64 x.1.2)
      have r33 := r32.far (p := ⟨n0 + 1 + 1, 0, none⟩) (show n0 + 1 ≠ n0 + 1 + 1 by omega) (.int .i64 x.1.2)
      have r43 : Blk (((W.drew.setCell ⟨n0, 0, none⟩ (.slice ad ln cap)).setCell ⟨n0 + 1, 0, none⟩ (.int .i64 (sumS pre : Nat))).setCell ⟨n0 + 1 + 1, 0, none⟩ (.int .i64 x.1.2)) (n0 + 1 + 1) 37 #[.int .i64 x.1.2] := r42.set_ 0 _
      have ht : Turn (fun j => j = n0 ∨ j = n0 + 1 ∨ j = n0 + 1 + 1) W (((W.drew.setCell ⟨n0, 0, none⟩ (.slice ad ln cap)).setCell ⟨n0 + 1, 0, none⟩ (.int .i64 (sumS pre : Nat))).setCell ⟨n0 + 1 + 1, 0, none⟩ (.int .i64 x.1.2)) := (((((Turn.refl (fun j => j = n0 ∨ j = n0 + 1 ∨ j = n0 + 1 + 1) W).drewN 1).setCell (.inl rfl) _).setCell (.inr (.inl rfl)) _).setCell (.inr (.inr rfl)) _)
      have HT := Lib.hid ht
      have hsz := HJ.out.siz
      have FIN : Hid (∀ z : Act, ownPostG W0.heap.size (KpR (n0 + 1 + 1 + 1 + 1 + 1)) (AllIv n0 w) (AllXv n0 w) (pre ++ [x]) W .ret z (((W.drew.setCell ⟨n0, 0, none⟩ (.slice ad ln cap)).setCell ⟨n0 + 1, 0, none⟩ (.int .i64 (sumS pre : Nat))).setCell ⟨n0 + 1 + 1, 0, none⟩ (.int .i64 x.1.2))) := Lib.hid fun _ => by
        refine ⟨keepsFrom_cells ht fun j hj => .inr ?_, rfl, pre, x, _, rfl, r23, r33, r43, OwnK.turn HJ.out.own ht (fun j hj hh => by have := HJ.out.own.2.2 j hj; omega), HJ.out.zs, HX.out, HJ.out.below.trans (ht.below fun j hj => by omega)⟩
        rcases hj with rfl | rfl | rfl
        · exact ⟨_, _, _, HJ.out.r2⟩
        · exact ⟨_, _, _, HJ.out.r3⟩
        · exact ⟨_, _, _, HJ.out.r4⟩
      have SL1 := Lib.hid (And.intro (lb1.cell 0) (ab1.cell 0))
      have SL2 := Lib.hid (And.intro (lb2.cell 0) (ab2.cell 0))
      have SL3 := Lib.hid (And.intro (lb3.cell 0) (ab3.cell 0))
      have C0 := Lib.hid (And.intro hc0 hf0)
      have C1 := Lib.hid (And.intro hc1 hf1)
      have C2 := Lib.hid (And.intro hc2 hf2)
      clear hc0 hf0 hc1 hf1 hc2 hf2 lb0 ab0 lb1 ab1 lb2 ab2 lb3 ab3 r20 r21 r22 r23 r30 r31 r32 r33 r40 r41 r42 r43 ht hsz hHeld0
      refine wpIn_region_round (by kernel_rfl) (by kernel_rfl) (fun ⟨_, _, h⟩ => h) ?_
      refine wpAny_of_held (S := fun u => u.cell? ⟨n0 + 1 + 1 + 1, 0, none⟩ = some (.slice ad ln cap) ∧ u.cell? ⟨n0 + 1 + 1 + 1 + 1, 0, none⟩ = some (.int .i64 (sumS pre : Nat))) _ _ _ _ ?_
      have hHeld : W.drew.cell? ⟨n0 + 1 + 1 + 1, 0, none⟩ = some (.slice ad ln cap) ∧ W.drew.cell? ⟨n0 + 1 + 1 + 1 + 1, 0, none⟩ = some (.int .i64 (sumS pre : Nat)) := ⟨HJ.out.lb.cell 0, HJ.out.ab.cell 0⟩
      refine' wpAnyH_take (i := 0) ?hiz1 (by kernel_rfl) (by kernel_rfl) (by kernel_rfl) ?hqz1 (Or.inl ⟨?hwz1, ?hyz1⟩) (by assumption) ?hrz1
      case hiz1 => (simp only [List.getElem?_toArray, List.getElem?_cons_succ, List.getElem?_cons_zero]; rfl)
      case hqz1 => exact fun _ _ _ h => h
      case hwz1 => rfl
      case hyz1 => (intro w0 hSw; (try dsimp only at hSw); go_split_ands; go_simp; try with_reducible rfl)
      (try simp only [Act.put, List.setIfInBounds_toArray, List.set_cons_zero, List.set_cons_succ])
      refine' wpAnyH_take (i := 1) ?hiz2 (by kernel_rfl) (by kernel_rfl) (by kernel_rfl) ?hqz2 (Or.inl ⟨?hwz2, ?hyz2⟩) (by assumption) ?hrz2
      case hiz2 => (simp only [List.getElem?_toArray, List.getElem?_cons_succ, List.getElem?_cons_zero]; rfl)
      case hqz2 => exact fun _ _ _ h => h
      case hwz2 => rfl
      case hyz2 => (intro w0 hSw; (try dsimp only at hSw); go_split_ands; go_simp; try with_reducible rfl)
      (try simp only [Act.put, List.setIfInBounds_toArray, List.set_cons_zero, List.set_cons_succ])
      refine' wpAnyH_take (i := 2) ?hiz3 (by kernel_rfl) (by kernel_rfl) (by kernel_rfl) ?hqz3 (Or.inl ⟨?hwz3, ?hyz3⟩) (by assumption) ?hrz3
      case hiz3 => (simp only [List.getElem?_toArray, List.getElem?_cons_succ, List.getElem?_cons_zero]; rfl)
      case hqz3 => exact fun _ _ _ h => h
      case hwz3 => rfl
      case hyz3 => (intro w0 hSw; (try dsimp only at hSw); go_split_ands; go_simp; try with_reducible rfl)
      (try simp only [Act.put, List.setIfInBounds_toArray, List.set_cons_zero, List.set_cons_succ])
      refine wpAnyH_ready (rs := [3]) (by kernel_rfl) (by simp) ?_
      refine' AllReadyH.cons ?hiy6 (fun K hK => ?hry6) AllReadyH.nil
      case hiy6 => (simp only [List.getElem?_toArray, List.getElem?_cons_succ, List.getElem?_cons_zero]; rfl)
      obtain ⟨hc, hf⟩ := C0.out
      go_simp
      clear hc hf
      refine hK.out _ _ ?_ (fun hHeld => ?_)
      · exact SL1.out
      clear hK K
      (try simp only [Act.put, List.setIfInBounds_toArray, List.set_cons_zero, List.set_cons_succ])
      refine wpAnyH_ready (rs := [4]) (by kernel_rfl) (by simp) ?_
      refine' AllReadyH.cons ?hiy5 (fun K hK => ?hry5) AllReadyH.nil
      case hiy5 => (simp only [List.getElem?_toArray, List.getElem?_cons_succ, List.getElem?_cons_zero]; rfl)
      obtain ⟨hc, hf⟩ := C1.out
      go_simp
      clear hc hf
      refine hK.out _ _ ?_ (fun hHeld => ?_)
      · exact SL2.out
      clear hK K
      (try simp only [Act.put, List.setIfInBounds_toArray, List.set_cons_zero, List.set_cons_succ])
      refine wpAnyH_ready (rs := [5]) (by kernel_rfl) (by simp) ?_
      refine' AllReadyH.cons ?hiy4 (fun K hK => ?hry4) AllReadyH.nil
      case hiy4 => (simp only [List.getElem?_toArray, List.getElem?_cons_succ, List.getElem?_cons_zero]; rfl)
      obtain ⟨hc, hf⟩ := C2.out
      go_simp
      refine hK.out _ _ ?_ (fun hHeld => ?_)
      · exact SL3.out
      clear hK K
      (try simp only [Act.put, List.setIfInBounds_toArray, List.set_cons_zero, List.set_cons_succ])
      refine wpAnyH_done (by kernel_rfl) ?_ _
      gi_wp2
      exact FIN.out _
    obtain ⟨rk, hrk⟩ : ∃ k, k = x.1.1.k := ⟨_, rfl⟩
    obtain ⟨tb, htb⟩ : ∃ b, b = oct.tx x.1.1.body := ⟨_, rfl⟩
    have htbs : tb.size = x.1.1.body.length := by rw [htb, oct.tx_size]
    have hx2 := x.2
    have hsl := sumS_le pre
    obtain ⟨v', w1, hrun, hO1, hT1⟩ := OwnR.push hJ.own x.1.1 (by rw [List.length_map]; omega)
    rw [← hrk, ← htb] at bX hrun
    rw [show recv x.1.1 = .agg #[.int .i64 rk, .string tb] by rw [hrk, htb]; rfl]
    obtain ⟨a2, c2, hv2⟩ := OwnK.form hO1
    obtain ⟨n2, hn2⟩ : ∃ n, n = ((pre.map (·.1.1)) ++ [x.1.1]).length := ⟨_, rfl⟩
    rw [List.length_map, ← hn2] at hv2
    subst hv2
    have hsz := hJ.siz
    have hg6 : ∀ j, (Value.slice ad ln cap).ownBlock = some j → n0 + 6 ≤ j ∧ j < W.heap.size := fun j hj => ⟨hJ.own.2.2 j hj, OwnK.lt hJ.own hj⟩
    have hX1 : Blk w1 Bx 66 #[.int .i64 rk, .string tb] := bX.turn hT1 (fun hh => by have := bX.lt; rcases hh with hh | hh; exact hBo hh; omega)
    have lb1 : Blk w1 (n0 + 1 + 1 + 1) 27 #[.slice ad ln cap] := hJ.lb.turn hT1 (fun hh => by rcases hh with hh | hh; have := hg6 _ hh; omega; omega)
    have ab1 : Blk w1 (n0 + 1 + 1 + 1 + 1) 3 #[.int .i64 (sumS pre : Nat)] := hJ.ab.turn hT1 (fun hh => by rcases hh with hh | hh; have := hg6 _ hh; omega; omega)
    have lb2 : Blk (w1.setCell ⟨n0 + 1 + 1 + 1, 0, none⟩ (.slice a2 n2 c2)) (n0 + 1 + 1 + 1) 27 #[.slice a2 n2 c2] := lb1.set_ 0 _
    have hX2 := hX1.far (p := ⟨n0 + 1 + 1 + 1, 0, none⟩) (show Bx ≠ n0 + 1 + 1 + 1 by omega) (.slice a2 n2 c2)
    have ab2 := ab1.far (p := ⟨n0 + 1 + 1 + 1, 0, none⟩) (show n0 + 1 + 1 + 1 + 1 ≠ n0 + 1 + 1 + 1 by omega) (.slice a2 n2 c2)
    have HZ := Lib.hid fun u => size_any (tb.size : Int) (by omega) u
    rw [show sizeR (tb.size : Int) = (tb.size : Int) + 9 by unfold sizeR; rw [if_neg (by omega)]] at HZ
    obtain ⟨sp, hsp⟩ : ∃ n, n = sumS pre := ⟨_, rfl⟩
    have hsn : sumS (pre ++ [x]) = sp + (tb.size + 9) := by rw [sumS_snoc, hsp, htbs]
    rw [← hsp] at hsl ab1 ab2
    have q0 : (0 : Int) ≤ (tb.size : Int) := Int.natCast_nonneg _
    have hwr : IntKind.i64.wrap ((sp : Int) + ((tb.size : Int) + 9)) = (sp : Int) + ((tb.size : Int) + 9) := by rw [IntKind.wrap_i64]; omega
    have hX3 := hX2.far (p := ⟨n0 + 1 + 1 + 1 + 1, 0, none⟩) (show Bx ≠ n0 + 1 + 1 + 1 + 1 by omega) (.int .i64 ((sp : Int) + ((tb.size : Int) + 9)))
    have FIN : Hid (∀ z : Act, ownPostG W0.heap.size (KpR (n0 + 1 + 1 + 1 + 1 + 1)) (AllIv n0 w) (AllXv n0 w) (pre ++ [x]) W .normal z ((w1.setCell ⟨n0 + 1 + 1 + 1, 0, none⟩ (.slice a2 n2 c2)).setCell ⟨n0 + 1 + 1 + 1 + 1, 0, none⟩ (.int .i64 ((sp : Int) + ((tb.size : Int) + 9)))).drew) := Lib.hid fun _ => by
      have ht : Turn (fun j => j = n0 + 1 + 1 + 1 ∨ j = n0 + 1 + 1 + 1 + 1 ∨ (Value.slice ad ln cap).ownBlock = some j ∨ W.heap.size ≤ j) W ((w1.setCell ⟨n0 + 1 + 1 + 1, 0, none⟩ (.slice a2 n2 c2)).setCell ⟨n0 + 1 + 1 + 1 + 1, 0, none⟩ (.int .i64 ((sp : Int) + ((tb.size : Int) + 9)))).drew := (((hT1.mono fun j hj => .inr (.inr hj)).setCell (.inl rfl) _).setCell (.inr (.inl rfl)) _).drew
      have hno : ∀ j, j < n0 + 6 → j ≠ n0 + 1 + 1 + 1 → j ≠ n0 + 1 + 1 + 1 + 1 → ¬ (j = n0 + 1 + 1 + 1 ∨ j = n0 + 1 + 1 + 1 + 1 ∨ (Value.slice ad ln cap).ownBlock = some j ∨ W.heap.size ≤ j) := fun j h1 h2 h3 hh => by
        rcases hh with hh | hh | hh | hh
        · exact h2 hh
        · exact h3 hh
        · have := hg6 _ hh; omega
        · omega
      refine ⟨keepsFrom_cells ht fun j hj => ?_, ⟨ht.size, ht.block _ (hno _ (by omega) (by omega) (by omega)), ht.block _ (hno _ (by omega) (by omega) (by omega))⟩, _, hJ.r2.turn ht (hno _ (by omega) (by omega) (by omega)), hJ.r3.turn ht (hno _ (by omega) (by omega) (by omega)), hJ.r4.turn ht (hno _ (by omega) (by omega) (by omega)),
        (lb2.far (p := ⟨n0 + 1 + 1 + 1 + 1, 0, none⟩) (show n0 + 1 + 1 + 1 ≠ n0 + 1 + 1 + 1 + 1 by omega) _), ?_, ?_, ?_, hJ.below.trans (ht.below fun j hj => ?_), Nat.le_trans hsz ht.size⟩
      · rcases hj with rfl | rfl | hj | hj
        · exact .inr ⟨_, _, _, hJ.lb⟩
        · exact .inr ⟨_, _, _, hJ.ab⟩
        · obtain ⟨cs, hcs⟩ := OwnR.own_cells hJ.own hj
          exact .inr ⟨_, _, _, hcs⟩
        · exact .inl hj
      · rw [hsn]
        exact ab2.set_ 0 _
      · rw [List.map_append]
        refine (OwnK.turn hO1 (((Turn.refl (fun j => j = n0 + 1 + 1 + 1 ∨ j = n0 + 1 + 1 + 1 + 1) w1).setCell (.inl rfl) _).setCell (.inr rfl) _).drew fun j hj hh => ?_).place fun j hj => ?_
        · rcases hO1.2.2 j hj with h | h
          · have := hg6 _ h; omega
          · omega
        · rcases hO1.2.2 j hj with h | h
          · exact (hg6 _ h).1
          · omega
      · intro y hy
        rcases List.mem_append.1 hy with hy | hy
        · exact hJ.zs y hy
        · rw [List.mem_singleton.1 hy]; exact he
      · rcases hj with rfl | rfl | hj | hj
        · omega
        · omega
        · have := hg6 _ hj; omega
        · omega
    have hcl : W.cell? ⟨n0 + 1 + 1 + 1, 0, none⟩ = some (.slice ad ln cap) := hJ.lb.cell 0
    have hx0 : W.cell? ⟨Bx, 0, none⟩ = some (.int .i64 rk) := bX.cell 0
    have hx1 : W.cell? ⟨Bx, 1, none⟩ = some (.string tb) := bX.cell 1
    have hc1 : w1.cell? ⟨n0 + 1 + 1 + 1, 0, none⟩ = some (.slice ad ln cap) := lb1.cell 0
    have hf1 := lb1.frozen 0
    have hca : w1.cell? ⟨n0 + 1 + 1 + 1 + 1, 0, none⟩ = some (.int .i64 (sp : Int)) := ab1.cell 0
    have hfa := ab1.frozen 0
    have HX2 := Lib.hid hX2
    have HX3 := Lib.hid hX3
    have HA := Lib.hid (And.intro hca hfa)
    have HLD := Lib.hid he
    have hd : (x.1.2 != 0) = false := by rw [he]; rfl
    clear hJ bX htb htbs hx2 hsl hO1 hT1 hg6 hX1 lb1 ab1 lb2 hX2 ab2 hsn hX3 hsp hn2 hrk he hca hfa hsz hBo
    gi_upto_region 9 with (gi_at_builtin; refine wpListIn_append_run rfl _ _ _ rfl _ _ _ w1 rfl rfl hrun ?_)
    obtain ⟨hca, hfa⟩ := HA.out
    refine wpIn_region_round (by kernel_rfl) (by kernel_rfl) (fun ⟨_, _, h⟩ => h) ?_
    refine wpAny_of_held (S := fun u => u.cell? ⟨Bx, 0, none⟩ = some (.int .i64 rk) ∧ u.cell? ⟨Bx, 1, none⟩ = some (.string tb)) _ _ _ _ ?_
    have hHeld : (w1.setCell ⟨n0 + 1 + 1 + 1, 0, none⟩ (.slice a2 n2 c2)).drew.cell? ⟨Bx, 0, none⟩ = some (.int .i64 rk) ∧ (w1.setCell ⟨n0 + 1 + 1 + 1, 0, none⟩ (.slice a2 n2 c2)).drew.cell? ⟨Bx, 1, none⟩ = some (.string tb) := ⟨HX2.out.cell 0, HX2.out.cell 1⟩
    refine' wpAnyH_take (i := 1) ?hiz101 (by kernel_rfl) (by kernel_rfl) (by kernel_rfl) ?hqz101 (Or.inl ⟨?hwz101, ?hyz101⟩) (by assumption) ?hrz101
    case hiz101 => (simp only [List.getElem?_toArray, List.getElem?_cons_succ, List.getElem?_cons_zero]; rfl)
    case hqz101 => exact fun _ _ _ h => h
    case hwz101 => rfl
    case hyz101 => (intro w0 hSw; (try dsimp only at hSw); go_split_ands; go_simp; try with_reducible rfl)
    (try simp only [Act.put, List.setIfInBounds_toArray, List.set_cons_zero, List.set_cons_succ])
    refine' wpAnyH_take (i := 2) ?hiz102 (by kernel_rfl) (by kernel_rfl) (by kernel_rfl) ?hqz102 (Or.inl ⟨?hwz102, ?hyz102⟩) (by assumption) ?hrz102
    case hiz102 => (simp only [List.getElem?_toArray, List.getElem?_cons_succ, List.getElem?_cons_zero]; rfl)
    case hqz102 => exact fun _ _ _ h => h
    case hwz102 => rfl
    case hyz102 => (intro w0 hSw; (try dsimp only at hSw); go_split_ands; go_simp; try with_reducible rfl)
    (try simp only [Act.put, List.setIfInBounds_toArray, List.set_cons_zero, List.set_cons_succ])
    refine' wpAnyH_take (i := 3) ?hiz103 (by kernel_rfl) (by kernel_rfl) (by kernel_rfl) ?hqz103 (Or.inl ⟨?hwz103, ?hyz103⟩) (by assumption) ?hrz103
    case hiz103 => (simp only [List.getElem?_toArray, List.getElem?_cons_succ, List.getElem?_cons_zero]; rfl)
    case hqz103 => exact fun _ _ _ h => h
    case hwz103 => rfl
    case hyz103 => (intro w0 hSw; (try dsimp only at hSw); go_split_ands; go_simp; try with_reducible rfl)
    (try simp only [Act.put, List.setIfInBounds_toArray, List.set_cons_zero, List.set_cons_succ])
    refine wpAnyH_ready (rs := [0, 4]) (by kernel_rfl) (by simp) ?_
    refine' AllReadyH.cons ?hiy110 (fun K hK => ?hry110) (AllReadyH.cons ?hiy111 (fun K hK => ?hry111) AllReadyH.nil)
    case hiy110 => (simp only [List.getElem?_toArray, List.getElem?_cons_succ, List.getElem?_cons_zero]; rfl)
    case hiy111 => (simp only [List.getElem?_toArray, List.getElem?_cons_succ, List.getElem?_cons_zero]; rfl)
    case hry110 =>
      go_simp
      refine hK.out _ _ ?_ (fun hHeld => ?_)
      · exact ⟨HX2.out.cell 0, HX2.out.cell 1⟩
      clear hK K
      (try simp only [Act.put, List.setIfInBounds_toArray, List.set_cons_zero, List.set_cons_succ])
      refine wpAnyH_ready (rs := [4]) (by kernel_rfl) (by simp) ?_
      refine' AllReadyH.cons ?hiy106 (fun K hK => ?hry106) AllReadyH.nil
      case hiy106 => (simp only [List.getElem?_toArray, List.getElem?_cons_succ, List.getElem?_cons_zero]; rfl)
      go_simp
      refine (HZ.out _).mono ?_
      rintro e8 w8 ⟨rfl, rfl⟩
      refine hK.out _ _ ?_ (fun hHeld => ?_)
      · exact ⟨HX2.out.cell 0, HX2.out.cell 1⟩
      clear hK K
      (try simp only [Act.put, List.setIfInBounds_toArray, List.set_cons_zero, List.set_cons_succ])
      refine' wpAnyH_take (i := 5) ?hiz104 (by kernel_rfl) (by kernel_rfl) (by kernel_rfl) ?hqz104 (Or.inl ⟨?hwz104, ?hyz104⟩) (by assumption) ?hrz104
      case hiz104 => (simp only [List.getElem?_toArray, List.getElem?_cons_succ, List.getElem?_cons_zero]; rfl)
      case hqz104 => exact fun _ _ _ h => h
      case hwz104 => rfl
      case hyz104 => (intro w0 hSw; (try dsimp only at hSw); go_split_ands; go_simp; try with_reducible rfl)
      (try simp only [Act.put, List.setIfInBounds_toArray, List.set_cons_zero, List.set_cons_succ])
      refine wpAnyH_ready (rs := [6]) (by kernel_rfl) (by simp) ?_
      refine' AllReadyH.cons ?hiy105 (fun K hK => ?hry105) AllReadyH.nil
      case hiy105 => (simp only [List.getElem?_toArray, List.getElem?_cons_succ, List.getElem?_cons_zero]; rfl)
      go_simp
      refine hK.out _ _ ?_ (fun hHeld => ?_)
      · exact ⟨HX3.out.cell 0, HX3.out.cell 1⟩
      clear hK K
      (try simp only [Act.put, List.setIfInBounds_toArray, List.set_cons_zero, List.set_cons_succ])
      refine wpAnyH_done (by kernel_rfl) ?_ _
      gi_wp2
      exact (FIN.out _)
    case hry111 =>
      go_simp
      refine (HZ.out _).mono ?_
      rintro e8 w8 ⟨rfl, rfl⟩
      refine hK.out _ _ ?_ (fun hHeld => ?_)
      · exact ⟨HX2.out.cell 0, HX2.out.cell 1⟩
      clear hK K
      (try simp only [Act.put, List.setIfInBounds_toArray, List.set_cons_zero, List.set_cons_succ])
      refine wpAnyH_ready (rs := [0]) (by kernel_rfl) (by simp) ?_
      refine' AllReadyH.cons ?hiy109 (fun K hK => ?hry109) AllReadyH.nil
      case hiy109 => (simp only [List.getElem?_toArray, List.getElem?_cons_succ, List.getElem?_cons_zero]; rfl)
      go_simp
      refine hK.out _ _ ?_ (fun hHeld => ?_)
      · exact ⟨HX2.out.cell 0, HX2.out.cell 1⟩
      clear hK K
      (try simp only [Act.put, List.setIfInBounds_toArray, List.set_cons_zero, List.set_cons_succ])
      refine' wpAnyH_take (i := 5) ?hiz107 (by kernel_rfl) (by kernel_rfl) (by kernel_rfl) ?hqz107 (Or.inl ⟨?hwz107, ?hyz107⟩) (by assumption) ?hrz107
      case hiz107 => (simp only [List.getElem?_toArray, List.getElem?_cons_succ, List.getElem?_cons_zero]; rfl)
      case hqz107 => exact fun _ _ _ h => h
      case hwz107 => rfl
      case hyz107 => (intro w0 hSw; (try dsimp only at hSw); go_split_ands; go_simp; try with_reducible rfl)
      (try simp only [Act.put, List.setIfInBounds_toArray, List.set_cons_zero, List.set_cons_succ])
      refine wpAnyH_ready (rs := [6]) (by kernel_rfl) (by simp) ?_
      refine' AllReadyH.cons ?hiy108 (fun K hK => ?hry108) AllReadyH.nil
      case hiy108 => (simp only [List.getElem?_toArray, List.getElem?_cons_succ, List.getElem?_cons_zero]; rfl)
      go_simp
      refine hK.out _ _ ?_ (fun hHeld => ?_)
      · exact ⟨HX3.out.cell 0, HX3.out.cell 1⟩
      clear hK K
      (try simp only [Act.put, List.setIfInBounds_toArray, List.set_cons_zero, List.set_cons_succ])
      refine wpAnyH_done (by kernel_rfl) ?_ _
      gi_wp2
      exact (FIN.out _)
  case done =>
    rintro D ys W hD hys ⟨vo, hJ⟩ hK
    obtain ⟨ad, cap, hform⟩ := OwnK.form hJ.own
    obtain ⟨ln, hln⟩ : ∃ n, n = (ys.map (·.1.1)).length := ⟨_, rfl⟩
    rw [List.length_map, ← hln] at hform
    subst hform
    obtain ⟨e1, e2, e3⟩ := items_done hys hJ.zs
    have hsz2 := hJ.siz
    have l0 : W.cell? ⟨n0 + 1 + 1 + 1, 0, none⟩ = some (.slice ad ln cap) := hJ.lb.cell 0
    have a0 : W.cell? ⟨n0 + 1 + 1 + 1 + 1, 0, none⟩ = some (.int .i64 (sumS ys : Nat)) := hJ.ab.cell 0
    have c0 : W.cell? ⟨n0, 0, none⟩ = some (.slice none 0 0) := hJ.r2.cell 0
    have c1 : W.cell? ⟨n0 + 1, 0, none⟩ = some (.int .i64 0) := hJ.r3.cell 0
    have c2 : W.cell? ⟨n0 + 1 + 1, 0, none⟩ = some (.int .i64 0) := hJ.r4.cell 0
    have f0 := hJ.r2.frozen 0
    have f1 := hJ.r3.frozen 0
    have f2 := hJ.r4.frozen 0
    obtain ⟨W3, hW3⟩ : ∃ u, u = (((W.setCell ⟨n0, 0, none⟩ (.slice ad ln cap)).setCell ⟨n0 + 1, 0, none⟩ (.int .i64 (sumS ys : Nat))).setCell ⟨n0 + 1 + 1, 0, none⟩ (.int .i64 0)).drew := ⟨_, rfl⟩
    have ht : Turn (fun j => j = n0 ∨ j = n0 + 1 ∨ j = n0 + 1 + 1) W W3 := by rw [hW3]; exact ((((Turn.refl (fun j => j = n0 ∨ j = n0 + 1 ∨ j = n0 + 1 + 1) W).setCell (.inl rfl) _).setCell (.inr (.inl rfl)) _).setCell (.inr (.inr rfl)) _).drew
    have d0 : Blk W3 n0 27 #[.slice ad ln cap] := by rw [hW3]; exact ((hJ.r2.set_ 0 _).far (p := ⟨n0 + 1, 0, none⟩) (show n0 ≠ n0 + 1 by omega) _).far (p := ⟨n0 + 1 + 1, 0, none⟩) (show n0 ≠ n0 + 1 + 1 by omega) _
    have d1 : Blk W3 (n0 + 1) 3 #[.int .i64 (sumS ys : Nat)] := by rw [hW3]; exact ((hJ.r3.far (p := ⟨n0, 0, none⟩) (show n0 + 1 ≠ n0 by omega) _).set_ 0 _).far (p := ⟨n0 + 1 + 1, 0, none⟩) (show n0 + 1 ≠ n0 + 1 + 1 by omega) _
    have d2 : Blk W3 (n0 + 1 + 1) 37 #[.int .i64 0] := by rw [hW3]; exact ((hJ.r4.far (p := ⟨n0, 0, none⟩) (show n0 + 1 + 1 ≠ n0 by omega) _).far (p := ⟨n0 + 1, 0, none⟩) (show n0 + 1 + 1 ≠ n0 + 1 by omega) _).set_ 0 _
    have hK3 : W3.heap[D]? = some (.deferred (some [])) := (ht.block D (by omega)).trans hK
    have hp := grownBy_putObj' W3 D (.deferred none)
    have ht4 : Turn (fun j => j = n0 ∨ j = n0 + 1 ∨ j = n0 + 1 + 1 ∨ n0 + 6 ≤ j) W (W3.putObj D (.deferred none)) := (ht.mono fun j hj => by rcases hj with h | h | h; exact .inl h; exact .inr (.inl h); exact .inr (.inr (.inl h))).trans (Turn.grown hp (fun k hk => by cases hk; exact .inr (.inr (.inr (by omega)))) (fun k hk => .inr (.inr (.inr (by have := ht.size; omega)))))
    have g0 : (W3.putObj D (.deferred none)).cell? ⟨n0, 0, none⟩ = some (.slice ad ln cap) := (d0.turn (Turn.grown (F := fun j => j = D ∨ W3.heap.size ≤ j) hp (fun k hk => by cases hk; exact .inl rfl) (fun k hk => .inr hk)) (by have := d0.lt; omega)).cell 0
    have g1 : (W3.putObj D (.deferred none)).cell? ⟨n0 + 1, 0, none⟩ = some (.int .i64 (sumS ys : Nat)) := (d1.turn (Turn.grown (F := fun j => j = D ∨ W3.heap.size ≤ j) hp (fun k hk => by cases hk; exact .inl rfl) (fun k hk => .inr hk)) (by have := d1.lt; omega)).cell 0
    have g2 : (W3.putObj D (.deferred none)).cell? ⟨n0 + 1 + 1, 0, none⟩ = some (.int .i64 0) := (d2.turn (Turn.grown (F := fun j => j = D ∨ W3.heap.size ≤ j) hp (fun k hk => by cases hk; exact .inl rfl) (fun k hk => .inr hk)) (by have := d2.lt; omega)).cell 0
    have own4 : OwnR (W3.putObj D (.deferred none)) (w.heap.size ≤ ·) (.slice ad ln cap) (allT s.data.toList).1 := by
      rw [← e2]
      refine (OwnK.turn hJ.own (((ht.mono fun j hj => (.inl hj : (j = n0 ∨ j = n0 + 1 ∨ j = n0 + 1 + 1) ∨ (j = D ∨ W3.heap.size ≤ j)))).trans ((Turn.grown (F := fun j => j = D ∨ W3.heap.size ≤ j) hp (fun k hk => by cases hk; exact .inl rfl) (fun k hk => .inr hk)).mono fun j hj => .inr hj)) fun j hj hh => ?_).place fun j hj => ?_
      · have h6 := hJ.own.2.2 j hj
        have h7 := OwnK.lt hJ.own hj
        have h8 := ht.size
        obtain ⟨cs, hcs⟩ := OwnR.own_cells hJ.own hj
        rcases hh with hh | hh | hh
        · omega
        · rw [hh, hK] at hcs; cases hcs
        · omega
      · have h6 := hJ.own.2.2 j hj
        have := HN0.out
        show w.heap.size ≤ j
        omega
    have hbel : Below w.heap.size w (W3.putObj D (.deferred none)) := by
      rw [← HN0.out]
      exact hJ.below.trans (ht4.below fun j hj => by omega)
    have HK3 := Lib.hid hK3
    have HG := Lib.hid (And.intro g0 (And.intro g1 g2))
    have HO4 := Lib.hid own4
    have HBE := Lib.hid hbel
    have HW3 := Lib.hid hW3
    have HE := Lib.hid (And.intro e1 (And.intro e2 e3))
    clear e1 e2 e3 hys hJ hK hln hW3 ht d0 d1 d2 hK3 hp ht4 g0 g1 g2 own4 hbel b0 b1 b2 b3 b4 b5 hTW hsz hsz2
    gi_upto_region 10 with fail
    refine wpIn_wide.2 ?_
    go_region
    all_goals
      gi_wp2
      rw [← HW3.out]
      refine ⟨by simp, .inl ⟨_, _, rfl, run_takeDeferred HK3.out, ?_⟩⟩
      refine ⟨_, results_c3 rfl _ _ n0 (n0 + 1) (n0 + 1 + 1) _ _ _ rfl rfl rfl HG.out.1 HG.out.2.1 HG.out.2.2, _, ?_, HO4.out, HBE.out⟩
      rw [HE.out.1, HE.out.2.2]
  case stop =>
    rintro D c pre W hD hSp ⟨rfl, ps, x, vo, rfl, hX⟩ hK
    obtain ⟨e1, e2, e3⟩ := items_stop hSp hX.xs
    gi_wp2
    refine ⟨by simp, .inl ⟨_, _, rfl, run_takeDeferred hK, ?_⟩⟩
    have hp := grownBy_putObj' W D (.deferred none)
    have ht : Turn (fun j => j = D ∨ W.heap.size ≤ j) W (W.putObj D (.deferred none)) := Turn.grown hp (fun k hk => by cases hk; exact .inl rfl) (fun k hk => .inr hk)
    have g0 : (W.putObj D (.deferred none)).cell? ⟨n0, 0, none⟩ = some vo := (hX.r2.turn ht (by have := hX.r2.lt; omega)).cell 0
    have g1 : (W.putObj D (.deferred none)).cell? ⟨n0 + 1, 0, none⟩ = some (.int .i64 (sumS ps : Nat)) := (hX.r3.turn ht (by have := hX.r3.lt; omega)).cell 0
    have g2 : (W.putObj D (.deferred none)).cell? ⟨n0 + 1 + 1, 0, none⟩ = some (.int .i64 x.1.2) := (hX.r4.turn ht (by have := hX.r4.lt; omega)).cell 0
    refine ⟨_, results_c3 rfl _ _ n0 (n0 + 1) (n0 + 1 + 1) _ _ _ rfl rfl rfl g0 g1 g2, vo, ?_, ?_, ?_⟩
    · rw [e1, ← e3]
    · rw [← e2]
      refine (OwnK.turn hX.own ht fun j hj hh => ?_).place fun j hj => ?_
      · obtain ⟨cs, hcs⟩ := OwnR.own_cells hX.own hj
        have h7 := OwnK.lt hX.own hj
        rcases hh with hh | hh
        · rw [hh, hK] at hcs; cases hcs
        · omega
      · have h6 := hX.own.2.2 j hj
        have := HN0.out
        show w.heap.size ≤ j
        omega
    · rw [← HN0.out]
      exact hX.below.trans (ht.below fun j hj => by have := hX.below.size; have := HN0.out; omega)
end Go.Proofs.YtkbbeioednhefaaGreatDoor.rcd
