/-
  petrelref12.Append.
-/
import Derived.Test.YtkbbeioednhefaaGreatDoorJna
namespace Go.Proofs.YtkbbeioednhefaaGreatDoor.jn
open Go.RowKit Go.Proofs.YtkbbeioednhefaaGreatDoor.mem Go.Proofs.YtkbbeioednhefaaGreatDoor.sha Go.Proofs.YtkbbeioednhefaaGreatDoor.opn Go.Proofs.YtkbbeioednhefaaGreatDoor.rows Go.Proofs.YtkbbeioednhefaaGreatDoor.ids Go.Proofs.YtkbbeioednhefaaGreatDoor.rcd

set_option maxHeartbeats 8000000 in
set_option maxRecDepth 100000 in
theorem append_ref (X : Nat) (j : Jr) (v : Value) (r : Rc) (w : World) (h : JX w X j v) (hv : RcV w v j.l) (hl : j.l.length ≤ 30000) (hs : j.s.length ≤ 1000000) (hb : r.body.length ≤ 140737488355328) (hvX : ∀ k, v.ownBlock = some k → k ≠ X) :
    Calls Tryz.prog 25 #[.pointer (some ⟨X, 0, none⟩), recv r] w fun e w' => ∃ v', e = .returned (.int .i64 (appJ j r).2) ∧ JX w' X (appJ j r).1 v' ∧ ((v' = v ∧ (appJ j r).1.l = j.l) ∨ OwnR w' (w.heap.size ≤ ·) v' (appJ j r).1.l) ∧ Turn (fun k => k = X ∨ w.heap.size ≤ k) w w' := by
  obtain ⟨s, k, l, m⟩ := j
  obtain ⟨rk, rb⟩ := r
  simp only at h hv hl hs hb
  have H := Lib.hid h
  have HV := Lib.hid hv
  have hX := Blk.lt h
  obtain ⟨ad, cap, rfl, -⟩ := hv
  have hb1 : Below w.heap.size w (w.alloc (.cells #[.int .i64 rk, .string (oct.tx rb)] 66)) := (Below.refl _ _).alloc (Nat.le_refl _) _
  have HB1 := Lib.hid hb1
  have HP := Lib.hid fun u => put_ref rk rb hb u
  simp only [recv] at HP ⊢
  obtain ⟨B, hB⟩ : ∃ B, B = w.heap.size := ⟨_, rfl⟩
  have hBB := Blk.new w 66 #[.int .i64 rk, .string (oct.tx rb)]
  obtain ⟨w0, hw0⟩ : ∃ u, u = w.alloc (.cells #[.int .i64 rk, .string (oct.tx rb)] 66) := ⟨_, rfl⟩
  rw [← hw0] at hb1 hBB HB1
  have hs0 : w0.heap.size = w.heap.size + 1 := by rw [hw0]; simp
  have HW0 := Lib.hid hw0
  have HBB := Lib.hid hBB
  obtain ⟨t, ht⟩ : ∃ t, t = oct.tx rb := ⟨_, rfl⟩
  rw [← ht] at HP HBB HW0
  rw [← ht]
  have c0 : w0.cell? ⟨w.heap.size, 0, none⟩ = some (.int .i64 rk) := HBB.out.cell 0
  have c1 : w0.cell? ⟨w.heap.size, 1, none⟩ = some (.string t) := HBB.out.cell 1
  have HTT := Lib.hid ht
  clear ht
  unfold appJ
  by_cases hc : checkR ⟨rk, rb⟩ = 0
  case neg =>
    rw [if_pos hc]
    rw [putR_bad rfl hc] at HP
    simp only at HP
    obtain ⟨e, he⟩ : ∃ e, e = checkR ⟨rk, rb⟩ := ⟨_, rfl⟩
    rw [← he] at HP ⊢
    have hd : ¬ e = 0 := by rw [he]; exact hc
    clear hc he hb1 hBB hw0 h hB
    go_enter Tryz.func25, Tryz.ntmps25
    go_upto_region 1 with fail
    rw [← HW0.out]
    go_wp2_with (go_at_call 52; (with_reducible refine (HP.out _).mono ?_); rintro e1 w1 ⟨rfl, hb2⟩)
    go_ret
    have hT : Turn (w.heap.size ≤ ·) w w1 := (Turn.ofBelow HB1.out).trans ((Turn.ofBelow hb2).mono fun k hk => Nat.le_trans HB1.out.size hk)
    exact ⟨.slice ad l.length cap, rfl, Blk.turn H.out hT (by omega), .inl ⟨rfl, trivial⟩, hT.mono fun k hk => .inr hk⟩
  · rw [if_neg (fun hh => hh hc)]
    rw [putR_good hc] at HP
    simp only at HP
    obtain ⟨A, hA⟩ : ∃ A, A = oct.tx (enR ⟨rk, rb⟩) := ⟨_, rfl⟩
    obtain ⟨S, hS⟩ : ∃ S, S = oct.tx s := ⟨_, rfl⟩
    have hSz : S.size = s.length := by rw [hS, oct.tx_size]
    have hAz : A.size ≤ 1048576 + 9 := by rw [hA, oct.tx_size, enR_len]; have := (checkR_ok hc).2.2; omega
    have hSA : S ++ A = oct.tx (s ++ enR ⟨rk, rb⟩) := by rw [hS, hA, tx_app]
    rw [← hA] at HP
    have gz : ¬ 9223372036854775807 < S.size + A.size := by omega
    have HSA := Lib.hid hSA
    have HSS := Lib.hid hS
    clear hA hS hSz hAz hSA hb1 hBB hw0 h hB hc
    go_enter Tryz.func25, Tryz.ntmps25
    go_upto_region 1 with fail
    rw [← HW0.out]
    go_upto_region 4 with (go_at_call 52; (with_reducible refine (HP.out _).mono ?_); rintro e1 w1 ⟨rfl, hb2⟩)
    have hT1 : Turn (w.heap.size ≤ ·) w w1 := (Turn.ofBelow HB1.out).trans ((Turn.ofBelow hb2).mono fun k hk => Nat.le_trans HB1.out.size hk)
    have hX1 : Blk w1 X 29 (jcells (oct.tx s) k (.slice ad l.length cap) m) := Blk.turn H.out hT1 (by omega)
    have hB1 := HBB.out.below hb2 (by omega)
    rw [← HSS.out] at hX1
    have e0 : w1.cell? ⟨X, 0, none⟩ = some (.string S) := hX1.cell 0
    have e2 : w1.cell? ⟨X, 2, none⟩ = some (.slice ad l.length cap) := hX1.cell 2
    have f0 := hX1.frozen 0
    have hset : Turn (· = X) w1 (w1.setCell ⟨X, 0, none⟩ (.string (S ++ A))) := (Turn.refl (· = X) w1).setCell rfl _
    have hX2 := hX1.set_ 0 (.string (S ++ A))
    have hB2 : Blk (w1.setCell ⟨X, 0, none⟩ (.string (S ++ A))) w.heap.size 66 #[.int .i64 rk, .string t] := Blk.turn hB1 hset (by omega)
    have hV2 : RcV (w1.setCell ⟨X, 0, none⟩ (.string (S ++ A))) (.slice ad l.length cap) l := by
      obtain ⟨ad', cap', e, hcell⟩ := HV.out
      cases e
      refine ⟨ad, cap, rfl, fun i hi => ?_⟩
      obtain ⟨b, off, e, hlt, h0, h1⟩ := hcell i hi
      have hbX : b ≠ X := hvX b (by rw [e]; rfl)
      have hTT := (hT1.mono (G := fun k => w.heap.size ≤ k ∨ k = X) fun k hk => .inl hk).trans (hset.mono fun k hk => .inr hk)
      have hnb : ¬ (w.heap.size ≤ b ∨ b = X) := by omega
      exact ⟨b, off, e, Nat.lt_of_lt_of_le hlt hTT.size, (hTT.cell hnb).trans h0, (hTT.cell hnb).trans h1⟩
    go_upto_region 5 with fail
    obtain ⟨uu, huu⟩ : ∃ u, u = w1.setCell ⟨X, 0, none⟩ (.string (S ++ A)) := ⟨_, rfl⟩
    rw [← huu] at hset hX2 hB2 hV2
    rw [← huu]
    have hTw : Turn (fun k => k = X ∨ w.heap.size ≤ k) w uu := (hT1.mono fun k hk => .inr hk).trans (hset.mono fun k hk => .inl hk)
    obtain ⟨u, hu⟩ : ∃ u, u = uu.drew := ⟨_, rfl⟩
    have hVu : RcV u (.slice ad l.length cap) l := by rw [hu]; exact hV2.next ((Below.refl _ _).drew)
    have hXu : Blk u X 29 (jcells (S ++ A) k (.slice ad l.length cap) m) := by rw [hu]; exact hX2
    have hBu : Blk u w.heap.size 66 #[.int .i64 rk, .string t] := by rw [hu]; exact hB2
    have hTu : Turn (fun k => k = X ∨ w.heap.size ≤ k) w u := by rw [hu]; exact hTw.drew
    have hsu : w.heap.size ≤ u.heap.size := hTu.size
    have E1 : Below u.heap.size u (u.alloc (.cells #[] 66)) := (Below.refl _ _).alloc (Nat.le_refl _) _
    have R1 : Below u.heap.size u (u.alloc (.cells #[.int .i64 rk, .string t] 66)) := (Below.refl _ _).alloc (Nat.le_refl _) _
    have zE : (u.alloc (.cells #[] 66)).heap.size = u.heap.size + 1 := by simp
    have zR : (u.alloc (.cells #[.int .i64 rk, .string t] 66)).heap.size = u.heap.size + 1 := by simp
    obtain ⟨vA, uA, vA4, uA4, hTA⟩ := two_a hVu ⟨rk, rb⟩ (by omega)
    obtain ⟨vB, uB, vB4, uB4, hTB⟩ := two_b (e := u.heap.size) (g := u.heap.size + 1) hVu ⟨rk, rb⟩ (by omega) (E1.alloc E1.size (.cells #[.int .i64 rk, .string t] 66)) (OwnK.next (own_nil u) ((Below.refl _ _).alloc (Nat.le_refl _) _)) (by rw [HTT.out, ← zE]; exact Blk.new _ _ _) (by omega)
    obtain ⟨vC, uC, vC4, uC4, hTC⟩ := two_b (e := u.heap.size + 1) (g := u.heap.size) hVu ⟨rk, rb⟩ (by omega) (R1.alloc R1.size (.cells #[] 66)) ((by have := own_nil (u.alloc (.cells #[.int .i64 rk, .string t] 66)); rw [zR] at this; exact this.place fun k hk => by have := this.2.2 k hk; show u.heap.size ≤ k; omega)) (by rw [HTT.out]; exact (Blk.new u _ _).alloc _) (by omega)
    rw [← HTT.out] at hTA
    have hTA1 := Lib.hid hTA.mid
    have TA := Lib.hid hTA
    have TB := Lib.hid hTB
    have TC := Lib.hid hTC
    have hend : ∀ v4 u4, OwnR u4 (u.heap.size ≤ ·) v4 (l ++ [⟨rk, rb⟩]) → Turn (u.heap.size ≤ ·) u u4 →
        (Instr.storeAt 27 (.pointer (some ⟨X, 2, none⟩)) v4).run Tryz.prog u4 = .ok () (u4.setCell ⟨X, 2, none⟩ v4) ∧
        (∃ v', JX (u4.setCell ⟨X, 2, none⟩ v4) X ⟨s ++ enR ⟨rk, rb⟩, k, l ++ [⟨rk, rb⟩], m⟩ v' ∧ OwnR (u4.setCell ⟨X, 2, none⟩ v4) (w.heap.size ≤ ·) v' (l ++ [⟨rk, rb⟩]) ∧ Turn (fun k => k = X ∨ w.heap.size ≤ k) w (u4.setCell ⟨X, 2, none⟩ v4)) := by
      intro v4 u4 hO hT
      have hX4 : Blk u4 X 29 (jcells (S ++ A) k (.slice ad l.length cap) m) := Blk.turn hXu hT (by omega)
      have g2 : u4.cell? ⟨X, 2, none⟩ = some (.slice ad l.length cap) := hX4.cell 2
      have ff := hX4.frozen 2
      obtain ⟨a4, q4, hv4⟩ := OwnK.form hO
      have hts : Turn (· = X) u4 (u4.setCell ⟨X, 2, none⟩ v4) := (Turn.refl (· = X) u4).setCell rfl _
      refine ⟨?_, v4, ?_, ?_, ?_⟩
      · rw [hv4]
        go_simp
      · have := hX4.set_ 2 v4
        show Blk _ X _ (jcells (oct.tx (s ++ enR ⟨rk, rb⟩)) k v4 m)
        rw [← HSA.out]
        exact this
      · exact (OwnK.turn hO hts fun k hk hh => by have := hO.2.2 k hk; simp at this; omega).place fun k hk => by have := hO.2.2 k hk; show w.heap.size ≤ k; simp at this; omega
      · exact (hTu.trans (hT.mono fun k hk => .inr (Nat.le_trans hsu hk))).trans (hts.mono fun k hk => .inl hk)
    have SA := Lib.hid (hend vA4 uA4 hTA.own hTA.turn).1
    have SB := Lib.hid (hend vB4 uB4 hTB.own hTB.turn).1
    have SC := Lib.hid (hend vC4 uC4 hTC.own hTC.turn).1
    have FA := Lib.hid (hend vA4 uA4 hTA.own hTA.turn).2
    have FB := Lib.hid (hend vB4 uB4 hTB.own hTB.turn).2
    have FC := Lib.hid (hend vC4 uC4 hTC.own hTC.turn).2
    have x2 : u.cell? ⟨X, 2, none⟩ = some (.slice ad l.length cap) := hXu.cell 2
    have b0 : u.cell? ⟨w.heap.size, 0, none⟩ = some (.int .i64 rk) := hBu.cell 0
    have b1 : u.cell? ⟨w.heap.size, 1, none⟩ = some (.string t) := hBu.cell 1
    have hlX : X < u.heap.size := hXu.lt
    have hlB : w.heap.size < u.heap.size := hBu.lt
    have hBA : Blk uA w.heap.size 66 #[.int .i64 rk, .string t] := by
      have h1 : Turn (u.heap.size ≤ ·) (u.alloc (.cells #[] 66)) uA := hTA1.out
      exact Blk.turn (hBu.alloc _) h1 (by omega)
    have bA0 : uA.cell? ⟨w.heap.size, 0, none⟩ = some (.int .i64 rk) := hBA.cell 0
    have bA1 : uA.cell? ⟨w.heap.size, 1, none⟩ = some (.string t) := hBA.cell 1
    clear hTA hTB hTC hend hset hX2 hB2 hV2 hTw hVu hXu hBu hTu E1 R1 hBA hX1 hB1 e0 e2 f0 hT1
    refine wp_region_any (by kernel_rfl) (show wpAny Tryz.prog _ _ _ _ _ _ uu.drew from ?_)
    rw [← hu]
    clear hu huu
    refine' wpAny_take (i := 0) ?hijb1 (by kernel_rfl) (by kernel_rfl) (by kernel_rfl) ?hqjb1 (Or.inl ⟨?hwjb1, ?hyjb1⟩) ?hrjb1
    case hijb1 => (simp only [List.getElem?_toArray, List.getElem?_cons_succ, List.getElem?_cons_zero]; rfl)
    case hqjb1 => exact fun _ _ _ h => h
    case hwjb1 => rfl
    case hyjb1 => (intro w0; go_simp; try with_reducible rfl)
    (try simp only [Act.put, List.setIfInBounds_toArray, List.set_cons_zero, List.set_cons_succ])
    refine' wpAny_take (i := 2) ?hijb2 (by kernel_rfl) (by kernel_rfl) (by kernel_rfl) ?hqjb2 (Or.inl ⟨?hwjb2, ?hyjb2⟩) ?hrjb2
    case hijb2 => (simp only [List.getElem?_toArray, List.getElem?_cons_succ, List.getElem?_cons_zero]; rfl)
    case hqjb2 => exact fun _ _ _ h => h
    case hwjb2 => rfl
    case hyjb2 => (intro w0; go_simp; try with_reducible rfl)
    (try simp only [Act.put, List.setIfInBounds_toArray, List.set_cons_zero, List.set_cons_succ])
    refine' wpAny_take (i := 3) ?hijb3 (by kernel_rfl) (by kernel_rfl) (by kernel_rfl) ?hqjb3 (Or.inl ⟨?hwjb3, ?hyjb3⟩) ?hrjb3
    case hijb3 => (simp only [List.getElem?_toArray, List.getElem?_cons_succ, List.getElem?_cons_zero]; rfl)
    case hqjb3 => exact fun _ _ _ h => h
    case hwjb3 => rfl
    case hyjb3 => (intro w0; go_simp; try with_reducible rfl)
    (try simp only [Act.put, List.setIfInBounds_toArray, List.set_cons_zero, List.set_cons_succ])
    refine' wpAny_take (i := 4) ?hijb4 (by kernel_rfl) (by kernel_rfl) (by kernel_rfl) ?hqjb4 (Or.inl ⟨?hwjb4, ?hyjb4⟩) ?hrjb4
    case hijb4 => (simp only [List.getElem?_toArray, List.getElem?_cons_succ, List.getElem?_cons_zero]; rfl)
    case hqjb4 => exact fun _ _ _ h => h
    case hwjb4 => rfl
    case hyjb4 => (intro w0; go_simp; try with_reducible rfl)
    (try simp only [Act.put, List.setIfInBounds_toArray, List.set_cons_zero, List.set_cons_succ])
    refine wpAny_ready (rs := [1, 5, 7]) (by kernel_rfl) (by simp) ?_
    refine' AllReady.cons ?hijb5_1 (fun K hK => ?hrjb5_1) (AllReady.cons ?hijb5_5 (fun K hK => ?hrjb5_5) (AllReady.cons ?hijb5_7 (fun K hK => ?hrjb5_7) AllReady.nil))
    case hijb5_1 => (simp only [List.getElem?_toArray, List.getElem?_cons_succ, List.getElem?_cons_zero]; rfl)
    case hijb5_5 => (simp only [List.getElem?_toArray, List.getElem?_cons_succ, List.getElem?_cons_zero]; rfl)
    case hijb5_7 => (simp only [List.getElem?_toArray, List.getElem?_cons_succ, List.getElem?_cons_zero]; rfl)
    case hrjb5_1 =>
      go_simp
      refine hK _ _ ?_
      clear hK K
      (try simp only [Act.put, List.setIfInBounds_toArray, List.set_cons_zero, List.set_cons_succ])
      refine wpAny_ready (rs := [5, 7]) (by kernel_rfl) (by simp) ?_
      refine' AllReady.cons ?hijb6_5 (fun K hK => ?hrjb6_5) (AllReady.cons ?hijb6_7 (fun K hK => ?hrjb6_7) AllReady.nil)
      case hijb6_5 => (simp only [List.getElem?_toArray, List.getElem?_cons_succ, List.getElem?_cons_zero]; rfl)
      case hijb6_7 => (simp only [List.getElem?_toArray, List.getElem?_cons_succ, List.getElem?_cons_zero]; rfl)
      case hrjb6_5 =>
        go_simp
        refine hK _ _ ?_
        clear hK K
        (try simp only [Act.put, List.setIfInBounds_toArray, List.set_cons_zero, List.set_cons_succ])
        refine wpAny_ready (rs := [6, 7]) (by kernel_rfl) (by simp) ?_
        refine' AllReady.cons ?hijb7_6 (fun K hK => ?hrjb7_6) (AllReady.cons ?hijb7_7 (fun K hK => ?hrjb7_7) AllReady.nil)
        case hijb7_6 => (simp only [List.getElem?_toArray, List.getElem?_cons_succ, List.getElem?_cons_zero]; rfl)
        case hijb7_7 => (simp only [List.getElem?_toArray, List.getElem?_cons_succ, List.getElem?_cons_zero]; rfl)
        case hrjb7_6 =>
          refine want_append (t := 27) rfl rfl rfl rfl TA.out.run1 (hK _ _ ?_)
          clear hK K
          (try simp only [Act.put, List.setIfInBounds_toArray, List.set_cons_zero, List.set_cons_succ])
          refine wpAny_ready (rs := [7]) (by kernel_rfl) (by simp) ?_
          refine' AllReady.cons ?hijb8_7 (fun K hK => ?hrjb8_7) AllReady.nil
          case hijb8_7 => (simp only [List.getElem?_toArray, List.getElem?_cons_succ, List.getElem?_cons_zero]; rfl)
          case hrjb8_7 =>
            go_simp
            refine hK _ _ ?_
            clear hK K
            (try simp only [Act.put, List.setIfInBounds_toArray, List.set_cons_zero, List.set_cons_succ])
            refine wpAny_ready (rs := [8]) (by kernel_rfl) (by simp) ?_
            refine' AllReady.cons ?hijb9_8 (fun K hK => ?hrjb9_8) AllReady.nil
            case hijb9_8 => (simp only [List.getElem?_toArray, List.getElem?_cons_succ, List.getElem?_cons_zero]; rfl)
            case hrjb9_8 =>
              go_simp
              refine hK _ _ ?_
              clear hK K
              (try simp only [Act.put, List.setIfInBounds_toArray, List.set_cons_zero, List.set_cons_succ])
              refine wpAny_ready (rs := [9]) (by kernel_rfl) (by simp) ?_
              refine' AllReady.cons ?hijb10_9 (fun K hK => ?hrjb10_9) AllReady.nil
              case hijb10_9 => (simp only [List.getElem?_toArray, List.getElem?_cons_succ, List.getElem?_cons_zero]; rfl)
              case hrjb10_9 =>
                refine want_append (t := 27) rfl rfl rfl rfl TA.out.run2 (hK _ _ ?_)
                clear hK K
                (try simp only [Act.put, List.setIfInBounds_toArray, List.set_cons_zero, List.set_cons_succ])
                refine' wpAny_take (i := 10) ?hijb12 (by kernel_rfl) (by kernel_rfl) (by kernel_rfl) ?hqjb12 (Or.inl ⟨?hwjb12, ?hyjb12⟩) ?hrjb12
                case hijb12 => (simp only [List.getElem?_toArray, List.getElem?_cons_succ, List.getElem?_cons_zero]; rfl)
                case hqjb12 => exact fun _ _ _ h => h
                case hwjb12 => rfl
                case hyjb12 => (intro w0; go_simp; try with_reducible rfl)
                (try simp only [Act.put, List.setIfInBounds_toArray, List.set_cons_zero, List.set_cons_succ])
                refine' wpAny_take (i := 11) ?hijb13 (by kernel_rfl) (by kernel_rfl) (by kernel_rfl) ?hqjb13 (Or.inl ⟨?hwjb13, ?hyjb13⟩) ?hrjb13
                case hijb13 => (simp only [List.getElem?_toArray, List.getElem?_cons_succ, List.getElem?_cons_zero]; rfl)
                case hqjb13 => exact fun _ _ _ h => h
                case hwjb13 => rfl
                case hyjb13 => (intro w0; go_simp; try with_reducible rfl)
                (try simp only [Act.put, List.setIfInBounds_toArray, List.set_cons_zero, List.set_cons_succ])
                refine wpAny_ready (rs := [12]) (by kernel_rfl) (by simp) ?_
                refine' AllReady.cons ?hijb11_12 (fun K hK => ?hrjb11_12) AllReady.nil
                case hijb11_12 => (simp only [List.getElem?_toArray, List.getElem?_cons_succ, List.getElem?_cons_zero]; rfl)
                case hrjb11_12 =>
                  refine want_store_run rfl rfl rfl rfl SA.out (hK _ _ ?_)
                  clear hK K
                  (try simp only [Act.put, List.setIfInBounds_toArray, List.set_cons_zero, List.set_cons_succ])
                  refine wpAny_done (by kernel_rfl) ?_ _
                  go_wp2_with fail
                  go_ret
                  exact ⟨rfl, FA.out⟩
        case hrjb7_7 =>
          go_simp
          refine hK _ _ ?_
          clear hK K
          (try simp only [Act.put, List.setIfInBounds_toArray, List.set_cons_zero, List.set_cons_succ])
          refine wpAny_ready (rs := [6, 8]) (by kernel_rfl) (by simp) ?_
          refine' AllReady.cons ?hijb14_6 (fun K hK => ?hrjb14_6) (AllReady.cons ?hijb14_8 (fun K hK => ?hrjb14_8) AllReady.nil)
          case hijb14_6 => (simp only [List.getElem?_toArray, List.getElem?_cons_succ, List.getElem?_cons_zero]; rfl)
          case hijb14_8 => (simp only [List.getElem?_toArray, List.getElem?_cons_succ, List.getElem?_cons_zero]; rfl)
          case hrjb14_6 =>
            refine want_append (t := 27) rfl rfl rfl rfl TA.out.run1 (hK _ _ ?_)
            clear hK K
            (try simp only [Act.put, List.setIfInBounds_toArray, List.set_cons_zero, List.set_cons_succ])
            refine wpAny_ready (rs := [8]) (by kernel_rfl) (by simp) ?_
            refine' AllReady.cons ?hijb15_8 (fun K hK => ?hrjb15_8) AllReady.nil
            case hijb15_8 => (simp only [List.getElem?_toArray, List.getElem?_cons_succ, List.getElem?_cons_zero]; rfl)
            case hrjb15_8 =>
              go_simp
              refine hK _ _ ?_
              clear hK K
              (try simp only [Act.put, List.setIfInBounds_toArray, List.set_cons_zero, List.set_cons_succ])
              refine wpAny_ready (rs := [9]) (by kernel_rfl) (by simp) ?_
              refine' AllReady.cons ?hijb16_9 (fun K hK => ?hrjb16_9) AllReady.nil
              case hijb16_9 => (simp only [List.getElem?_toArray, List.getElem?_cons_succ, List.getElem?_cons_zero]; rfl)
              case hrjb16_9 =>
                refine want_append (t := 27) rfl rfl rfl rfl TA.out.run2 (hK _ _ ?_)
                clear hK K
                (try simp only [Act.put, List.setIfInBounds_toArray, List.set_cons_zero, List.set_cons_succ])
                refine' wpAny_take (i := 10) ?hijb18 (by kernel_rfl) (by kernel_rfl) (by kernel_rfl) ?hqjb18 (Or.inl ⟨?hwjb18, ?hyjb18⟩) ?hrjb18
                case hijb18 => (simp only [List.getElem?_toArray, List.getElem?_cons_succ, List.getElem?_cons_zero]; rfl)
                case hqjb18 => exact fun _ _ _ h => h
                case hwjb18 => rfl
                case hyjb18 => (intro w0; go_simp; try with_reducible rfl)
                (try simp only [Act.put, List.setIfInBounds_toArray, List.set_cons_zero, List.set_cons_succ])
                refine' wpAny_take (i := 11) ?hijb19 (by kernel_rfl) (by kernel_rfl) (by kernel_rfl) ?hqjb19 (Or.inl ⟨?hwjb19, ?hyjb19⟩) ?hrjb19
                case hijb19 => (simp only [List.getElem?_toArray, List.getElem?_cons_succ, List.getElem?_cons_zero]; rfl)
                case hqjb19 => exact fun _ _ _ h => h
                case hwjb19 => rfl
                case hyjb19 => (intro w0; go_simp; try with_reducible rfl)
                (try simp only [Act.put, List.setIfInBounds_toArray, List.set_cons_zero, List.set_cons_succ])
                refine wpAny_ready (rs := [12]) (by kernel_rfl) (by simp) ?_
                refine' AllReady.cons ?hijb17_12 (fun K hK => ?hrjb17_12) AllReady.nil
                case hijb17_12 => (simp only [List.getElem?_toArray, List.getElem?_cons_succ, List.getElem?_cons_zero]; rfl)
                case hrjb17_12 =>
                  refine want_store_run rfl rfl rfl rfl SA.out (hK _ _ ?_)
                  clear hK K
                  (try simp only [Act.put, List.setIfInBounds_toArray, List.set_cons_zero, List.set_cons_succ])
                  refine wpAny_done (by kernel_rfl) ?_ _
                  go_wp2_with fail
                  go_ret
                  exact ⟨rfl, FA.out⟩
          case hrjb14_8 =>
            go_simp
            refine hK _ _ ?_
            clear hK K
            (try simp only [Act.put, List.setIfInBounds_toArray, List.set_cons_zero, List.set_cons_succ])
            refine wpAny_ready (rs := [6]) (by kernel_rfl) (by simp) ?_
            refine' AllReady.cons ?hijb20_6 (fun K hK => ?hrjb20_6) AllReady.nil
            case hijb20_6 => (simp only [List.getElem?_toArray, List.getElem?_cons_succ, List.getElem?_cons_zero]; rfl)
            case hrjb20_6 =>
              refine want_append (t := 27) rfl rfl rfl rfl TB.out.run1 (hK _ _ ?_)
              clear hK K
              (try simp only [Act.put, List.setIfInBounds_toArray, List.set_cons_zero, List.set_cons_succ])
              refine wpAny_ready (rs := [9]) (by kernel_rfl) (by simp) ?_
              refine' AllReady.cons ?hijb21_9 (fun K hK => ?hrjb21_9) AllReady.nil
              case hijb21_9 => (simp only [List.getElem?_toArray, List.getElem?_cons_succ, List.getElem?_cons_zero]; rfl)
              case hrjb21_9 =>
                refine want_append (t := 27) rfl rfl rfl rfl TB.out.run2 (hK _ _ ?_)
                clear hK K
                (try simp only [Act.put, List.setIfInBounds_toArray, List.set_cons_zero, List.set_cons_succ])
                refine' wpAny_take (i := 10) ?hijb23 (by kernel_rfl) (by kernel_rfl) (by kernel_rfl) ?hqjb23 (Or.inl ⟨?hwjb23, ?hyjb23⟩) ?hrjb23
                case hijb23 => (simp only [List.getElem?_toArray, List.getElem?_cons_succ, List.getElem?_cons_zero]; rfl)
                case hqjb23 => exact fun _ _ _ h => h
                case hwjb23 => rfl
                case hyjb23 => (intro w0; go_simp; try with_reducible rfl)
                (try simp only [Act.put, List.setIfInBounds_toArray, List.set_cons_zero, List.set_cons_succ])
                refine' wpAny_take (i := 11) ?hijb24 (by kernel_rfl) (by kernel_rfl) (by kernel_rfl) ?hqjb24 (Or.inl ⟨?hwjb24, ?hyjb24⟩) ?hrjb24
                case hijb24 => (simp only [List.getElem?_toArray, List.getElem?_cons_succ, List.getElem?_cons_zero]; rfl)
                case hqjb24 => exact fun _ _ _ h => h
                case hwjb24 => rfl
                case hyjb24 => (intro w0; go_simp; try with_reducible rfl)
                (try simp only [Act.put, List.setIfInBounds_toArray, List.set_cons_zero, List.set_cons_succ])
                refine wpAny_ready (rs := [12]) (by kernel_rfl) (by simp) ?_
                refine' AllReady.cons ?hijb22_12 (fun K hK => ?hrjb22_12) AllReady.nil
                case hijb22_12 => (simp only [List.getElem?_toArray, List.getElem?_cons_succ, List.getElem?_cons_zero]; rfl)
                case hrjb22_12 =>
                  refine want_store_run rfl rfl rfl rfl SB.out (hK _ _ ?_)
                  clear hK K
                  (try simp only [Act.put, List.setIfInBounds_toArray, List.set_cons_zero, List.set_cons_succ])
                  refine wpAny_done (by kernel_rfl) ?_ _
                  go_wp2_with fail
                  go_ret
                  exact ⟨rfl, FB.out⟩
      case hrjb6_7 =>
        go_simp
        refine hK _ _ ?_
        clear hK K
        (try simp only [Act.put, List.setIfInBounds_toArray, List.set_cons_zero, List.set_cons_succ])
        refine wpAny_ready (rs := [5, 8]) (by kernel_rfl) (by simp) ?_
        refine' AllReady.cons ?hijb25_5 (fun K hK => ?hrjb25_5) (AllReady.cons ?hijb25_8 (fun K hK => ?hrjb25_8) AllReady.nil)
        case hijb25_5 => (simp only [List.getElem?_toArray, List.getElem?_cons_succ, List.getElem?_cons_zero]; rfl)
        case hijb25_8 => (simp only [List.getElem?_toArray, List.getElem?_cons_succ, List.getElem?_cons_zero]; rfl)
        case hrjb25_5 =>
          go_simp
          refine hK _ _ ?_
          clear hK K
          (try simp only [Act.put, List.setIfInBounds_toArray, List.set_cons_zero, List.set_cons_succ])
          refine wpAny_ready (rs := [6, 8]) (by kernel_rfl) (by simp) ?_
          refine' AllReady.cons ?hijb26_6 (fun K hK => ?hrjb26_6) (AllReady.cons ?hijb26_8 (fun K hK => ?hrjb26_8) AllReady.nil)
          case hijb26_6 => (simp only [List.getElem?_toArray, List.getElem?_cons_succ, List.getElem?_cons_zero]; rfl)
          case hijb26_8 => (simp only [List.getElem?_toArray, List.getElem?_cons_succ, List.getElem?_cons_zero]; rfl)
          case hrjb26_6 =>
            refine want_append (t := 27) rfl rfl rfl rfl TA.out.run1 (hK _ _ ?_)
            clear hK K
            (try simp only [Act.put, List.setIfInBounds_toArray, List.set_cons_zero, List.set_cons_succ])
            refine wpAny_ready (rs := [8]) (by kernel_rfl) (by simp) ?_
            refine' AllReady.cons ?hijb27_8 (fun K hK => ?hrjb27_8) AllReady.nil
            case hijb27_8 => (simp only [List.getElem?_toArray, List.getElem?_cons_succ, List.getElem?_cons_zero]; rfl)
            case hrjb27_8 =>
              go_simp
              refine hK _ _ ?_
              clear hK K
              (try simp only [Act.put, List.setIfInBounds_toArray, List.set_cons_zero, List.set_cons_succ])
              refine wpAny_ready (rs := [9]) (by kernel_rfl) (by simp) ?_
              refine' AllReady.cons ?hijb28_9 (fun K hK => ?hrjb28_9) AllReady.nil
              case hijb28_9 => (simp only [List.getElem?_toArray, List.getElem?_cons_succ, List.getElem?_cons_zero]; rfl)
              case hrjb28_9 =>
                refine want_append (t := 27) rfl rfl rfl rfl TA.out.run2 (hK _ _ ?_)
                clear hK K
                (try simp only [Act.put, List.setIfInBounds_toArray, List.set_cons_zero, List.set_cons_succ])
                refine' wpAny_take (i := 10) ?hijb30 (by kernel_rfl) (by kernel_rfl) (by kernel_rfl) ?hqjb30 (Or.inl ⟨?hwjb30, ?hyjb30⟩) ?hrjb30
                case hijb30 => (simp only [List.getElem?_toArray, List.getElem?_cons_succ, List.getElem?_cons_zero]; rfl)
                case hqjb30 => exact fun _ _ _ h => h
                case hwjb30 => rfl
                case hyjb30 => (intro w0; go_simp; try with_reducible rfl)
                (try simp only [Act.put, List.setIfInBounds_toArray, List.set_cons_zero, List.set_cons_succ])
                refine' wpAny_take (i := 11) ?hijb31 (by kernel_rfl) (by kernel_rfl) (by kernel_rfl) ?hqjb31 (Or.inl ⟨?hwjb31, ?hyjb31⟩) ?hrjb31
                case hijb31 => (simp only [List.getElem?_toArray, List.getElem?_cons_succ, List.getElem?_cons_zero]; rfl)
                case hqjb31 => exact fun _ _ _ h => h
                case hwjb31 => rfl
                case hyjb31 => (intro w0; go_simp; try with_reducible rfl)
                (try simp only [Act.put, List.setIfInBounds_toArray, List.set_cons_zero, List.set_cons_succ])
                refine wpAny_ready (rs := [12]) (by kernel_rfl) (by simp) ?_
                refine' AllReady.cons ?hijb29_12 (fun K hK => ?hrjb29_12) AllReady.nil
                case hijb29_12 => (simp only [List.getElem?_toArray, List.getElem?_cons_succ, List.getElem?_cons_zero]; rfl)
                case hrjb29_12 =>
                  refine want_store_run rfl rfl rfl rfl SA.out (hK _ _ ?_)
                  clear hK K
                  (try simp only [Act.put, List.setIfInBounds_toArray, List.set_cons_zero, List.set_cons_succ])
                  refine wpAny_done (by kernel_rfl) ?_ _
                  go_wp2_with fail
                  go_ret
                  exact ⟨rfl, FA.out⟩
          case hrjb26_8 =>
            go_simp
            refine hK _ _ ?_
            clear hK K
            (try simp only [Act.put, List.setIfInBounds_toArray, List.set_cons_zero, List.set_cons_succ])
            refine wpAny_ready (rs := [6]) (by kernel_rfl) (by simp) ?_
            refine' AllReady.cons ?hijb32_6 (fun K hK => ?hrjb32_6) AllReady.nil
            case hijb32_6 => (simp only [List.getElem?_toArray, List.getElem?_cons_succ, List.getElem?_cons_zero]; rfl)
            case hrjb32_6 =>
              refine want_append (t := 27) rfl rfl rfl rfl TB.out.run1 (hK _ _ ?_)
              clear hK K
              (try simp only [Act.put, List.setIfInBounds_toArray, List.set_cons_zero, List.set_cons_succ])
              refine wpAny_ready (rs := [9]) (by kernel_rfl) (by simp) ?_
              refine' AllReady.cons ?hijb33_9 (fun K hK => ?hrjb33_9) AllReady.nil
              case hijb33_9 => (simp only [List.getElem?_toArray, List.getElem?_cons_succ, List.getElem?_cons_zero]; rfl)
              case hrjb33_9 =>
                refine want_append (t := 27) rfl rfl rfl rfl TB.out.run2 (hK _ _ ?_)
                clear hK K
                (try simp only [Act.put, List.setIfInBounds_toArray, List.set_cons_zero, List.set_cons_succ])
                refine' wpAny_take (i := 10) ?hijb35 (by kernel_rfl) (by kernel_rfl) (by kernel_rfl) ?hqjb35 (Or.inl ⟨?hwjb35, ?hyjb35⟩) ?hrjb35
                case hijb35 => (simp only [List.getElem?_toArray, List.getElem?_cons_succ, List.getElem?_cons_zero]; rfl)
                case hqjb35 => exact fun _ _ _ h => h
                case hwjb35 => rfl
                case hyjb35 => (intro w0; go_simp; try with_reducible rfl)
                (try simp only [Act.put, List.setIfInBounds_toArray, List.set_cons_zero, List.set_cons_succ])
                refine' wpAny_take (i := 11) ?hijb36 (by kernel_rfl) (by kernel_rfl) (by kernel_rfl) ?hqjb36 (Or.inl ⟨?hwjb36, ?hyjb36⟩) ?hrjb36
                case hijb36 => (simp only [List.getElem?_toArray, List.getElem?_cons_succ, List.getElem?_cons_zero]; rfl)
                case hqjb36 => exact fun _ _ _ h => h
                case hwjb36 => rfl
                case hyjb36 => (intro w0; go_simp; try with_reducible rfl)
                (try simp only [Act.put, List.setIfInBounds_toArray, List.set_cons_zero, List.set_cons_succ])
                refine wpAny_ready (rs := [12]) (by kernel_rfl) (by simp) ?_
                refine' AllReady.cons ?hijb34_12 (fun K hK => ?hrjb34_12) AllReady.nil
                case hijb34_12 => (simp only [List.getElem?_toArray, List.getElem?_cons_succ, List.getElem?_cons_zero]; rfl)
                case hrjb34_12 =>
                  refine want_store_run rfl rfl rfl rfl SB.out (hK _ _ ?_)
                  clear hK K
                  (try simp only [Act.put, List.setIfInBounds_toArray, List.set_cons_zero, List.set_cons_succ])
                  refine wpAny_done (by kernel_rfl) ?_ _
                  go_wp2_with fail
                  go_ret
                  exact ⟨rfl, FB.out⟩
        case hrjb25_8 =>
          go_simp
          refine hK _ _ ?_
          clear hK K
          (try simp only [Act.put, List.setIfInBounds_toArray, List.set_cons_zero, List.set_cons_succ])
          refine wpAny_ready (rs := [5]) (by kernel_rfl) (by simp) ?_
          refine' AllReady.cons ?hijb37_5 (fun K hK => ?hrjb37_5) AllReady.nil
          case hijb37_5 => (simp only [List.getElem?_toArray, List.getElem?_cons_succ, List.getElem?_cons_zero]; rfl)
          case hrjb37_5 =>
            go_simp
            refine hK _ _ ?_
            clear hK K
            (try simp only [Act.put, List.setIfInBounds_toArray, List.set_cons_zero, List.set_cons_succ])
            refine wpAny_ready (rs := [6]) (by kernel_rfl) (by simp) ?_
            refine' AllReady.cons ?hijb38_6 (fun K hK => ?hrjb38_6) AllReady.nil
            case hijb38_6 => (simp only [List.getElem?_toArray, List.getElem?_cons_succ, List.getElem?_cons_zero]; rfl)
            case hrjb38_6 =>
              refine want_append (t := 27) rfl rfl rfl rfl TB.out.run1 (hK _ _ ?_)
              clear hK K
              (try simp only [Act.put, List.setIfInBounds_toArray, List.set_cons_zero, List.set_cons_succ])
              refine wpAny_ready (rs := [9]) (by kernel_rfl) (by simp) ?_
              refine' AllReady.cons ?hijb39_9 (fun K hK => ?hrjb39_9) AllReady.nil
              case hijb39_9 => (simp only [List.getElem?_toArray, List.getElem?_cons_succ, List.getElem?_cons_zero]; rfl)
              case hrjb39_9 =>
                refine want_append (t := 27) rfl rfl rfl rfl TB.out.run2 (hK _ _ ?_)
                clear hK K
                (try simp only [Act.put, List.setIfInBounds_toArray, List.set_cons_zero, List.set_cons_succ])
                refine' wpAny_take (i := 10) ?hijb41 (by kernel_rfl) (by kernel_rfl) (by kernel_rfl) ?hqjb41 (Or.inl ⟨?hwjb41, ?hyjb41⟩) ?hrjb41
                case hijb41 => (simp only [List.getElem?_toArray, List.getElem?_cons_succ, List.getElem?_cons_zero]; rfl)
                case hqjb41 => exact fun _ _ _ h => h
                case hwjb41 => rfl
                case hyjb41 => (intro w0; go_simp; try with_reducible rfl)
                (try simp only [Act.put, List.setIfInBounds_toArray, List.set_cons_zero, List.set_cons_succ])
                refine' wpAny_take (i := 11) ?hijb42 (by kernel_rfl) (by kernel_rfl) (by kernel_rfl) ?hqjb42 (Or.inl ⟨?hwjb42, ?hyjb42⟩) ?hrjb42
                case hijb42 => (simp only [List.getElem?_toArray, List.getElem?_cons_succ, List.getElem?_cons_zero]; rfl)
                case hqjb42 => exact fun _ _ _ h => h
                case hwjb42 => rfl
                case hyjb42 => (intro w0; go_simp; try with_reducible rfl)
                (try simp only [Act.put, List.setIfInBounds_toArray, List.set_cons_zero, List.set_cons_succ])
                refine wpAny_ready (rs := [12]) (by kernel_rfl) (by simp) ?_
                refine' AllReady.cons ?hijb40_12 (fun K hK => ?hrjb40_12) AllReady.nil
                case hijb40_12 => (simp only [List.getElem?_toArray, List.getElem?_cons_succ, List.getElem?_cons_zero]; rfl)
                case hrjb40_12 =>
                  refine want_store_run rfl rfl rfl rfl SB.out (hK _ _ ?_)
                  clear hK K
                  (try simp only [Act.put, List.setIfInBounds_toArray, List.set_cons_zero, List.set_cons_succ])
                  refine wpAny_done (by kernel_rfl) ?_ _
                  go_wp2_with fail
                  go_ret
                  exact ⟨rfl, FB.out⟩
    case hrjb5_5 =>
      go_simp
      refine hK _ _ ?_
      clear hK K
      (try simp only [Act.put, List.setIfInBounds_toArray, List.set_cons_zero, List.set_cons_succ])
      refine wpAny_ready (rs := [1, 7]) (by kernel_rfl) (by simp) ?_
      refine' AllReady.cons ?hijb43_1 (fun K hK => ?hrjb43_1) (AllReady.cons ?hijb43_7 (fun K hK => ?hrjb43_7) AllReady.nil)
      case hijb43_1 => (simp only [List.getElem?_toArray, List.getElem?_cons_succ, List.getElem?_cons_zero]; rfl)
      case hijb43_7 => (simp only [List.getElem?_toArray, List.getElem?_cons_succ, List.getElem?_cons_zero]; rfl)
      case hrjb43_1 =>
        go_simp
        refine hK _ _ ?_
        clear hK K
        (try simp only [Act.put, List.setIfInBounds_toArray, List.set_cons_zero, List.set_cons_succ])
        refine wpAny_ready (rs := [6, 7]) (by kernel_rfl) (by simp) ?_
        refine' AllReady.cons ?hijb44_6 (fun K hK => ?hrjb44_6) (AllReady.cons ?hijb44_7 (fun K hK => ?hrjb44_7) AllReady.nil)
        case hijb44_6 => (simp only [List.getElem?_toArray, List.getElem?_cons_succ, List.getElem?_cons_zero]; rfl)
        case hijb44_7 => (simp only [List.getElem?_toArray, List.getElem?_cons_succ, List.getElem?_cons_zero]; rfl)
        case hrjb44_6 =>
          refine want_append (t := 27) rfl rfl rfl rfl TA.out.run1 (hK _ _ ?_)
          clear hK K
          (try simp only [Act.put, List.setIfInBounds_toArray, List.set_cons_zero, List.set_cons_succ])
          refine wpAny_ready (rs := [7]) (by kernel_rfl) (by simp) ?_
          refine' AllReady.cons ?hijb45_7 (fun K hK => ?hrjb45_7) AllReady.nil
          case hijb45_7 => (simp only [List.getElem?_toArray, List.getElem?_cons_succ, List.getElem?_cons_zero]; rfl)
          case hrjb45_7 =>
            go_simp
            refine hK _ _ ?_
            clear hK K
            (try simp only [Act.put, List.setIfInBounds_toArray, List.set_cons_zero, List.set_cons_succ])
            refine wpAny_ready (rs := [8]) (by kernel_rfl) (by simp) ?_
            refine' AllReady.cons ?hijb46_8 (fun K hK => ?hrjb46_8) AllReady.nil
            case hijb46_8 => (simp only [List.getElem?_toArray, List.getElem?_cons_succ, List.getElem?_cons_zero]; rfl)
            case hrjb46_8 =>
              go_simp
              refine hK _ _ ?_
              clear hK K
              (try simp only [Act.put, List.setIfInBounds_toArray, List.set_cons_zero, List.set_cons_succ])
              refine wpAny_ready (rs := [9]) (by kernel_rfl) (by simp) ?_
              refine' AllReady.cons ?hijb47_9 (fun K hK => ?hrjb47_9) AllReady.nil
              case hijb47_9 => (simp only [List.getElem?_toArray, List.getElem?_cons_succ, List.getElem?_cons_zero]; rfl)
              case hrjb47_9 =>
                refine want_append (t := 27) rfl rfl rfl rfl TA.out.run2 (hK _ _ ?_)
                clear hK K
                (try simp only [Act.put, List.setIfInBounds_toArray, List.set_cons_zero, List.set_cons_succ])
                refine' wpAny_take (i := 10) ?hijb49 (by kernel_rfl) (by kernel_rfl) (by kernel_rfl) ?hqjb49 (Or.inl ⟨?hwjb49, ?hyjb49⟩) ?hrjb49
                case hijb49 => (simp only [List.getElem?_toArray, List.getElem?_cons_succ, List.getElem?_cons_zero]; rfl)
                case hqjb49 => exact fun _ _ _ h => h
                case hwjb49 => rfl
                case hyjb49 => (intro w0; go_simp; try with_reducible rfl)
                (try simp only [Act.put, List.setIfInBounds_toArray, List.set_cons_zero, List.set_cons_succ])
                refine' wpAny_take (i := 11) ?hijb50 (by kernel_rfl) (by kernel_rfl) (by kernel_rfl) ?hqjb50 (Or.inl ⟨?hwjb50, ?hyjb50⟩) ?hrjb50
                case hijb50 => (simp only [List.getElem?_toArray, List.getElem?_cons_succ, List.getElem?_cons_zero]; rfl)
                case hqjb50 => exact fun _ _ _ h => h
                case hwjb50 => rfl
                case hyjb50 => (intro w0; go_simp; try with_reducible rfl)
                (try simp only [Act.put, List.setIfInBounds_toArray, List.set_cons_zero, List.set_cons_succ])
                refine wpAny_ready (rs := [12]) (by kernel_rfl) (by simp) ?_
                refine' AllReady.cons ?hijb48_12 (fun K hK => ?hrjb48_12) AllReady.nil
                case hijb48_12 => (simp only [List.getElem?_toArray, List.getElem?_cons_succ, List.getElem?_cons_zero]; rfl)
                case hrjb48_12 =>
                  refine want_store_run rfl rfl rfl rfl SA.out (hK _ _ ?_)
                  clear hK K
                  (try simp only [Act.put, List.setIfInBounds_toArray, List.set_cons_zero, List.set_cons_succ])
                  refine wpAny_done (by kernel_rfl) ?_ _
                  go_wp2_with fail
                  go_ret
                  exact ⟨rfl, FA.out⟩
        case hrjb44_7 =>
          go_simp
          refine hK _ _ ?_
          clear hK K
          (try simp only [Act.put, List.setIfInBounds_toArray, List.set_cons_zero, List.set_cons_succ])
          refine wpAny_ready (rs := [6, 8]) (by kernel_rfl) (by simp) ?_
          refine' AllReady.cons ?hijb51_6 (fun K hK => ?hrjb51_6) (AllReady.cons ?hijb51_8 (fun K hK => ?hrjb51_8) AllReady.nil)
          case hijb51_6 => (simp only [List.getElem?_toArray, List.getElem?_cons_succ, List.getElem?_cons_zero]; rfl)
          case hijb51_8 => (simp only [List.getElem?_toArray, List.getElem?_cons_succ, List.getElem?_cons_zero]; rfl)
          case hrjb51_6 =>
            refine want_append (t := 27) rfl rfl rfl rfl TA.out.run1 (hK _ _ ?_)
            clear hK K
            (try simp only [Act.put, List.setIfInBounds_toArray, List.set_cons_zero, List.set_cons_succ])
            refine wpAny_ready (rs := [8]) (by kernel_rfl) (by simp) ?_
            refine' AllReady.cons ?hijb52_8 (fun K hK => ?hrjb52_8) AllReady.nil
            case hijb52_8 => (simp only [List.getElem?_toArray, List.getElem?_cons_succ, List.getElem?_cons_zero]; rfl)
            case hrjb52_8 =>
              go_simp
              refine hK _ _ ?_
              clear hK K
              (try simp only [Act.put, List.setIfInBounds_toArray, List.set_cons_zero, List.set_cons_succ])
              refine wpAny_ready (rs := [9]) (by kernel_rfl) (by simp) ?_
              refine' AllReady.cons ?hijb53_9 (fun K hK => ?hrjb53_9) AllReady.nil
              case hijb53_9 => (simp only [List.getElem?_toArray, List.getElem?_cons_succ, List.getElem?_cons_zero]; rfl)
              case hrjb53_9 =>
                refine want_append (t := 27) rfl rfl rfl rfl TA.out.run2 (hK _ _ ?_)
                clear hK K
                (try simp only [Act.put, List.setIfInBounds_toArray, List.set_cons_zero, List.set_cons_succ])
                refine' wpAny_take (i := 10) ?hijb55 (by kernel_rfl) (by kernel_rfl) (by kernel_rfl) ?hqjb55 (Or.inl ⟨?hwjb55, ?hyjb55⟩) ?hrjb55
                case hijb55 => (simp only [List.getElem?_toArray, List.getElem?_cons_succ, List.getElem?_cons_zero]; rfl)
                case hqjb55 => exact fun _ _ _ h => h
                case hwjb55 => rfl
                case hyjb55 => (intro w0; go_simp; try with_reducible rfl)
                (try simp only [Act.put, List.setIfInBounds_toArray, List.set_cons_zero, List.set_cons_succ])
                refine' wpAny_take (i := 11) ?hijb56 (by kernel_rfl) (by kernel_rfl) (by kernel_rfl) ?hqjb56 (Or.inl ⟨?hwjb56, ?hyjb56⟩) ?hrjb56
                case hijb56 => (simp only [List.getElem?_toArray, List.getElem?_cons_succ, List.getElem?_cons_zero]; rfl)
                case hqjb56 => exact fun _ _ _ h => h
                case hwjb56 => rfl
                case hyjb56 => (intro w0; go_simp; try with_reducible rfl)
                (try simp only [Act.put, List.setIfInBounds_toArray, List.set_cons_zero, List.set_cons_succ])
                refine wpAny_ready (rs := [12]) (by kernel_rfl) (by simp) ?_
                refine' AllReady.cons ?hijb54_12 (fun K hK => ?hrjb54_12) AllReady.nil
                case hijb54_12 => (simp only [List.getElem?_toArray, List.getElem?_cons_succ, List.getElem?_cons_zero]; rfl)
                case hrjb54_12 =>
                  refine want_store_run rfl rfl rfl rfl SA.out (hK _ _ ?_)
                  clear hK K
                  (try simp only [Act.put, List.setIfInBounds_toArray, List.set_cons_zero, List.set_cons_succ])
                  refine wpAny_done (by kernel_rfl) ?_ _
                  go_wp2_with fail
                  go_ret
                  exact ⟨rfl, FA.out⟩
          case hrjb51_8 =>
            go_simp
            refine hK _ _ ?_
            clear hK K
            (try simp only [Act.put, List.setIfInBounds_toArray, List.set_cons_zero, List.set_cons_succ])
            refine wpAny_ready (rs := [6]) (by kernel_rfl) (by simp) ?_
            refine' AllReady.cons ?hijb57_6 (fun K hK => ?hrjb57_6) AllReady.nil
            case hijb57_6 => (simp only [List.getElem?_toArray, List.getElem?_cons_succ, List.getElem?_cons_zero]; rfl)
            case hrjb57_6 =>
              refine want_append (t := 27) rfl rfl rfl rfl TB.out.run1 (hK _ _ ?_)
              clear hK K
              (try simp only [Act.put, List.setIfInBounds_toArray, List.set_cons_zero, List.set_cons_succ])
              refine wpAny_ready (rs := [9]) (by kernel_rfl) (by simp) ?_
              refine' AllReady.cons ?hijb58_9 (fun K hK => ?hrjb58_9) AllReady.nil
              case hijb58_9 => (simp only [List.getElem?_toArray, List.getElem?_cons_succ, List.getElem?_cons_zero]; rfl)
              case hrjb58_9 =>
                refine want_append (t := 27) rfl rfl rfl rfl TB.out.run2 (hK _ _ ?_)
                clear hK K
                (try simp only [Act.put, List.setIfInBounds_toArray, List.set_cons_zero, List.set_cons_succ])
                refine' wpAny_take (i := 10) ?hijb60 (by kernel_rfl) (by kernel_rfl) (by kernel_rfl) ?hqjb60 (Or.inl ⟨?hwjb60, ?hyjb60⟩) ?hrjb60
                case hijb60 => (simp only [List.getElem?_toArray, List.getElem?_cons_succ, List.getElem?_cons_zero]; rfl)
                case hqjb60 => exact fun _ _ _ h => h
                case hwjb60 => rfl
                case hyjb60 => (intro w0; go_simp; try with_reducible rfl)
                (try simp only [Act.put, List.setIfInBounds_toArray, List.set_cons_zero, List.set_cons_succ])
                refine' wpAny_take (i := 11) ?hijb61 (by kernel_rfl) (by kernel_rfl) (by kernel_rfl) ?hqjb61 (Or.inl ⟨?hwjb61, ?hyjb61⟩) ?hrjb61
                case hijb61 => (simp only [List.getElem?_toArray, List.getElem?_cons_succ, List.getElem?_cons_zero]; rfl)
                case hqjb61 => exact fun _ _ _ h => h
                case hwjb61 => rfl
                case hyjb61 => (intro w0; go_simp; try with_reducible rfl)
                (try simp only [Act.put, List.setIfInBounds_toArray, List.set_cons_zero, List.set_cons_succ])
                refine wpAny_ready (rs := [12]) (by kernel_rfl) (by simp) ?_
                refine' AllReady.cons ?hijb59_12 (fun K hK => ?hrjb59_12) AllReady.nil
                case hijb59_12 => (simp only [List.getElem?_toArray, List.getElem?_cons_succ, List.getElem?_cons_zero]; rfl)
                case hrjb59_12 =>
                  refine want_store_run rfl rfl rfl rfl SB.out (hK _ _ ?_)
                  clear hK K
                  (try simp only [Act.put, List.setIfInBounds_toArray, List.set_cons_zero, List.set_cons_succ])
                  refine wpAny_done (by kernel_rfl) ?_ _
                  go_wp2_with fail
                  go_ret
                  exact ⟨rfl, FB.out⟩
      case hrjb43_7 =>
        go_simp
        refine hK _ _ ?_
        clear hK K
        (try simp only [Act.put, List.setIfInBounds_toArray, List.set_cons_zero, List.set_cons_succ])
        refine wpAny_ready (rs := [1, 8]) (by kernel_rfl) (by simp) ?_
        refine' AllReady.cons ?hijb62_1 (fun K hK => ?hrjb62_1) (AllReady.cons ?hijb62_8 (fun K hK => ?hrjb62_8) AllReady.nil)
        case hijb62_1 => (simp only [List.getElem?_toArray, List.getElem?_cons_succ, List.getElem?_cons_zero]; rfl)
        case hijb62_8 => (simp only [List.getElem?_toArray, List.getElem?_cons_succ, List.getElem?_cons_zero]; rfl)
        case hrjb62_1 =>
          go_simp
          refine hK _ _ ?_
          clear hK K
          (try simp only [Act.put, List.setIfInBounds_toArray, List.set_cons_zero, List.set_cons_succ])
          refine wpAny_ready (rs := [6, 8]) (by kernel_rfl) (by simp) ?_
          refine' AllReady.cons ?hijb63_6 (fun K hK => ?hrjb63_6) (AllReady.cons ?hijb63_8 (fun K hK => ?hrjb63_8) AllReady.nil)
          case hijb63_6 => (simp only [List.getElem?_toArray, List.getElem?_cons_succ, List.getElem?_cons_zero]; rfl)
          case hijb63_8 => (simp only [List.getElem?_toArray, List.getElem?_cons_succ, List.getElem?_cons_zero]; rfl)
          case hrjb63_6 =>
            refine want_append (t := 27) rfl rfl rfl rfl TA.out.run1 (hK _ _ ?_)
            clear hK K
            (try simp only [Act.put, List.setIfInBounds_toArray, List.set_cons_zero, List.set_cons_succ])
            refine wpAny_ready (rs := [8]) (by kernel_rfl) (by simp) ?_
            refine' AllReady.cons ?hijb64_8 (fun K hK => ?hrjb64_8) AllReady.nil
            case hijb64_8 => (simp only [List.getElem?_toArray, List.getElem?_cons_succ, List.getElem?_cons_zero]; rfl)
            case hrjb64_8 =>
              go_simp
              refine hK _ _ ?_
              clear hK K
              (try simp only [Act.put, List.setIfInBounds_toArray, List.set_cons_zero, List.set_cons_succ])
              refine wpAny_ready (rs := [9]) (by kernel_rfl) (by simp) ?_
              refine' AllReady.cons ?hijb65_9 (fun K hK => ?hrjb65_9) AllReady.nil
              case hijb65_9 => (simp only [List.getElem?_toArray, List.getElem?_cons_succ, List.getElem?_cons_zero]; rfl)
              case hrjb65_9 =>
                refine want_append (t := 27) rfl rfl rfl rfl TA.out.run2 (hK _ _ ?_)
                clear hK K
                (try simp only [Act.put, List.setIfInBounds_toArray, List.set_cons_zero, List.set_cons_succ])
                refine' wpAny_take (i := 10) ?hijb67 (by kernel_rfl) (by kernel_rfl) (by kernel_rfl) ?hqjb67 (Or.inl ⟨?hwjb67, ?hyjb67⟩) ?hrjb67
                case hijb67 => (simp only [List.getElem?_toArray, List.getElem?_cons_succ, List.getElem?_cons_zero]; rfl)
                case hqjb67 => exact fun _ _ _ h => h
                case hwjb67 => rfl
                case hyjb67 => (intro w0; go_simp; try with_reducible rfl)
                (try simp only [Act.put, List.setIfInBounds_toArray, List.set_cons_zero, List.set_cons_succ])
                refine' wpAny_take (i := 11) ?hijb68 (by kernel_rfl) (by kernel_rfl) (by kernel_rfl) ?hqjb68 (Or.inl ⟨?hwjb68, ?hyjb68⟩) ?hrjb68
                case hijb68 => (simp only [List.getElem?_toArray, List.getElem?_cons_succ, List.getElem?_cons_zero]; rfl)
                case hqjb68 => exact fun _ _ _ h => h
                case hwjb68 => rfl
                case hyjb68 => (intro w0; go_simp; try with_reducible rfl)
                (try simp only [Act.put, List.setIfInBounds_toArray, List.set_cons_zero, List.set_cons_succ])
                refine wpAny_ready (rs := [12]) (by kernel_rfl) (by simp) ?_
                refine' AllReady.cons ?hijb66_12 (fun K hK => ?hrjb66_12) AllReady.nil
                case hijb66_12 => (simp only [List.getElem?_toArray, List.getElem?_cons_succ, List.getElem?_cons_zero]; rfl)
                case hrjb66_12 =>
                  refine want_store_run rfl rfl rfl rfl SA.out (hK _ _ ?_)
                  clear hK K
                  (try simp only [Act.put, List.setIfInBounds_toArray, List.set_cons_zero, List.set_cons_succ])
                  refine wpAny_done (by kernel_rfl) ?_ _
                  go_wp2_with fail
                  go_ret
                  exact ⟨rfl, FA.out⟩
          case hrjb63_8 =>
            go_simp
            refine hK _ _ ?_
            clear hK K
            (try simp only [Act.put, List.setIfInBounds_toArray, List.set_cons_zero, List.set_cons_succ])
            refine wpAny_ready (rs := [6]) (by kernel_rfl) (by simp) ?_
            refine' AllReady.cons ?hijb69_6 (fun K hK => ?hrjb69_6) AllReady.nil
            case hijb69_6 => (simp only [List.getElem?_toArray, List.getElem?_cons_succ, List.getElem?_cons_zero]; rfl)
            case hrjb69_6 =>
              refine want_append (t := 27) rfl rfl rfl rfl TB.out.run1 (hK _ _ ?_)
              clear hK K
              (try simp only [Act.put, List.setIfInBounds_toArray, List.set_cons_zero, List.set_cons_succ])
              refine wpAny_ready (rs := [9]) (by kernel_rfl) (by simp) ?_
              refine' AllReady.cons ?hijb70_9 (fun K hK => ?hrjb70_9) AllReady.nil
              case hijb70_9 => (simp only [List.getElem?_toArray, List.getElem?_cons_succ, List.getElem?_cons_zero]; rfl)
              case hrjb70_9 =>
                refine want_append (t := 27) rfl rfl rfl rfl TB.out.run2 (hK _ _ ?_)
                clear hK K
                (try simp only [Act.put, List.setIfInBounds_toArray, List.set_cons_zero, List.set_cons_succ])
                refine' wpAny_take (i := 10) ?hijb72 (by kernel_rfl) (by kernel_rfl) (by kernel_rfl) ?hqjb72 (Or.inl ⟨?hwjb72, ?hyjb72⟩) ?hrjb72
                case hijb72 => (simp only [List.getElem?_toArray, List.getElem?_cons_succ, List.getElem?_cons_zero]; rfl)
                case hqjb72 => exact fun _ _ _ h => h
                case hwjb72 => rfl
                case hyjb72 => (intro w0; go_simp; try with_reducible rfl)
                (try simp only [Act.put, List.setIfInBounds_toArray, List.set_cons_zero, List.set_cons_succ])
                refine' wpAny_take (i := 11) ?hijb73 (by kernel_rfl) (by kernel_rfl) (by kernel_rfl) ?hqjb73 (Or.inl ⟨?hwjb73, ?hyjb73⟩) ?hrjb73
                case hijb73 => (simp only [List.getElem?_toArray, List.getElem?_cons_succ, List.getElem?_cons_zero]; rfl)
                case hqjb73 => exact fun _ _ _ h => h
                case hwjb73 => rfl
                case hyjb73 => (intro w0; go_simp; try with_reducible rfl)
                (try simp only [Act.put, List.setIfInBounds_toArray, List.set_cons_zero, List.set_cons_succ])
                refine wpAny_ready (rs := [12]) (by kernel_rfl) (by simp) ?_
                refine' AllReady.cons ?hijb71_12 (fun K hK => ?hrjb71_12) AllReady.nil
                case hijb71_12 => (simp only [List.getElem?_toArray, List.getElem?_cons_succ, List.getElem?_cons_zero]; rfl)
                case hrjb71_12 =>
                  refine want_store_run rfl rfl rfl rfl SB.out (hK _ _ ?_)
                  clear hK K
                  (try simp only [Act.put, List.setIfInBounds_toArray, List.set_cons_zero, List.set_cons_succ])
                  refine wpAny_done (by kernel_rfl) ?_ _
                  go_wp2_with fail
                  go_ret
                  exact ⟨rfl, FB.out⟩
        case hrjb62_8 =>
          go_simp
          refine hK _ _ ?_
          clear hK K
          (try simp only [Act.put, List.setIfInBounds_toArray, List.set_cons_zero, List.set_cons_succ])
          refine wpAny_ready (rs := [1]) (by kernel_rfl) (by simp) ?_
          refine' AllReady.cons ?hijb74_1 (fun K hK => ?hrjb74_1) AllReady.nil
          case hijb74_1 => (simp only [List.getElem?_toArray, List.getElem?_cons_succ, List.getElem?_cons_zero]; rfl)
          case hrjb74_1 =>
            go_simp
            refine hK _ _ ?_
            clear hK K
            (try simp only [Act.put, List.setIfInBounds_toArray, List.set_cons_zero, List.set_cons_succ])
            refine wpAny_ready (rs := [6]) (by kernel_rfl) (by simp) ?_
            refine' AllReady.cons ?hijb75_6 (fun K hK => ?hrjb75_6) AllReady.nil
            case hijb75_6 => (simp only [List.getElem?_toArray, List.getElem?_cons_succ, List.getElem?_cons_zero]; rfl)
            case hrjb75_6 =>
              refine want_append (t := 27) rfl rfl rfl rfl TC.out.run1 (hK _ _ ?_)
              clear hK K
              (try simp only [Act.put, List.setIfInBounds_toArray, List.set_cons_zero, List.set_cons_succ])
              refine wpAny_ready (rs := [9]) (by kernel_rfl) (by simp) ?_
              refine' AllReady.cons ?hijb76_9 (fun K hK => ?hrjb76_9) AllReady.nil
              case hijb76_9 => (simp only [List.getElem?_toArray, List.getElem?_cons_succ, List.getElem?_cons_zero]; rfl)
              case hrjb76_9 =>
                refine want_append (t := 27) rfl rfl rfl rfl TC.out.run2 (hK _ _ ?_)
                clear hK K
                (try simp only [Act.put, List.setIfInBounds_toArray, List.set_cons_zero, List.set_cons_succ])
                refine' wpAny_take (i := 10) ?hijb78 (by kernel_rfl) (by kernel_rfl) (by kernel_rfl) ?hqjb78 (Or.inl ⟨?hwjb78, ?hyjb78⟩) ?hrjb78
                case hijb78 => (simp only [List.getElem?_toArray, List.getElem?_cons_succ, List.getElem?_cons_zero]; rfl)
                case hqjb78 => exact fun _ _ _ h => h
                case hwjb78 => rfl
                case hyjb78 => (intro w0; go_simp; try with_reducible rfl)
                (try simp only [Act.put, List.setIfInBounds_toArray, List.set_cons_zero, List.set_cons_succ])
                refine' wpAny_take (i := 11) ?hijb79 (by kernel_rfl) (by kernel_rfl) (by kernel_rfl) ?hqjb79 (Or.inl ⟨?hwjb79, ?hyjb79⟩) ?hrjb79
                case hijb79 => (simp only [List.getElem?_toArray, List.getElem?_cons_succ, List.getElem?_cons_zero]; rfl)
                case hqjb79 => exact fun _ _ _ h => h
                case hwjb79 => rfl
                case hyjb79 => (intro w0; go_simp; try with_reducible rfl)
                (try simp only [Act.put, List.setIfInBounds_toArray, List.set_cons_zero, List.set_cons_succ])
                refine wpAny_ready (rs := [12]) (by kernel_rfl) (by simp) ?_
                refine' AllReady.cons ?hijb77_12 (fun K hK => ?hrjb77_12) AllReady.nil
                case hijb77_12 => (simp only [List.getElem?_toArray, List.getElem?_cons_succ, List.getElem?_cons_zero]; rfl)
                case hrjb77_12 =>
                  refine want_store_run rfl rfl rfl rfl SC.out (hK _ _ ?_)
                  clear hK K
                  (try simp only [Act.put, List.setIfInBounds_toArray, List.set_cons_zero, List.set_cons_succ])
                  refine wpAny_done (by kernel_rfl) ?_ _
                  go_wp2_with fail
                  go_ret
                  exact ⟨rfl, FC.out⟩
    case hrjb5_7 =>
      go_simp
      refine hK _ _ ?_
      clear hK K
      (try simp only [Act.put, List.setIfInBounds_toArray, List.set_cons_zero, List.set_cons_succ])
      refine wpAny_ready (rs := [1, 5, 8]) (by kernel_rfl) (by simp) ?_
      refine' AllReady.cons ?hijb80_1 (fun K hK => ?hrjb80_1) (AllReady.cons ?hijb80_5 (fun K hK => ?hrjb80_5) (AllReady.cons ?hijb80_8 (fun K hK => ?hrjb80_8) AllReady.nil))
      case hijb80_1 => (simp only [List.getElem?_toArray, List.getElem?_cons_succ, List.getElem?_cons_zero]; rfl)
      case hijb80_5 => (simp only [List.getElem?_toArray, List.getElem?_cons_succ, List.getElem?_cons_zero]; rfl)
      case hijb80_8 => (simp only [List.getElem?_toArray, List.getElem?_cons_succ, List.getElem?_cons_zero]; rfl)
      case hrjb80_1 =>
        go_simp
        refine hK _ _ ?_
        clear hK K
        (try simp only [Act.put, List.setIfInBounds_toArray, List.set_cons_zero, List.set_cons_succ])
        refine wpAny_ready (rs := [5, 8]) (by kernel_rfl) (by simp) ?_
        refine' AllReady.cons ?hijb81_5 (fun K hK => ?hrjb81_5) (AllReady.cons ?hijb81_8 (fun K hK => ?hrjb81_8) AllReady.nil)
        case hijb81_5 => (simp only [List.getElem?_toArray, List.getElem?_cons_succ, List.getElem?_cons_zero]; rfl)
        case hijb81_8 => (simp only [List.getElem?_toArray, List.getElem?_cons_succ, List.getElem?_cons_zero]; rfl)
        case hrjb81_5 =>
          go_simp
          refine hK _ _ ?_
          clear hK K
          (try simp only [Act.put, List.setIfInBounds_toArray, List.set_cons_zero, List.set_cons_succ])
          refine wpAny_ready (rs := [6, 8]) (by kernel_rfl) (by simp) ?_
          refine' AllReady.cons ?hijb82_6 (fun K hK => ?hrjb82_6) (AllReady.cons ?hijb82_8 (fun K hK => ?hrjb82_8) AllReady.nil)
          case hijb82_6 => (simp only [List.getElem?_toArray, List.getElem?_cons_succ, List.getElem?_cons_zero]; rfl)
          case hijb82_8 => (simp only [List.getElem?_toArray, List.getElem?_cons_succ, List.getElem?_cons_zero]; rfl)
          case hrjb82_6 =>
            refine want_append (t := 27) rfl rfl rfl rfl TA.out.run1 (hK _ _ ?_)
            clear hK K
            (try simp only [Act.put, List.setIfInBounds_toArray, List.set_cons_zero, List.set_cons_succ])
            refine wpAny_ready (rs := [8]) (by kernel_rfl) (by simp) ?_
            refine' AllReady.cons ?hijb83_8 (fun K hK => ?hrjb83_8) AllReady.nil
            case hijb83_8 => (simp only [List.getElem?_toArray, List.getElem?_cons_succ, List.getElem?_cons_zero]; rfl)
            case hrjb83_8 =>
              go_simp
              refine hK _ _ ?_
              clear hK K
              (try simp only [Act.put, List.setIfInBounds_toArray, List.set_cons_zero, List.set_cons_succ])
              refine wpAny_ready (rs := [9]) (by kernel_rfl) (by simp) ?_
              refine' AllReady.cons ?hijb84_9 (fun K hK => ?hrjb84_9) AllReady.nil
              case hijb84_9 => (simp only [List.getElem?_toArray, List.getElem?_cons_succ, List.getElem?_cons_zero]; rfl)
              case hrjb84_9 =>
                refine want_append (t := 27) rfl rfl rfl rfl TA.out.run2 (hK _ _ ?_)
                clear hK K
                (try simp only [Act.put, List.setIfInBounds_toArray, List.set_cons_zero, List.set_cons_succ])
                refine' wpAny_take (i := 10) ?hijb86 (by kernel_rfl) (by kernel_rfl) (by kernel_rfl) ?hqjb86 (Or.inl ⟨?hwjb86, ?hyjb86⟩) ?hrjb86
                case hijb86 => (simp only [List.getElem?_toArray, List.getElem?_cons_succ, List.getElem?_cons_zero]; rfl)
                case hqjb86 => exact fun _ _ _ h => h
                case hwjb86 => rfl
                case hyjb86 => (intro w0; go_simp; try with_reducible rfl)
                (try simp only [Act.put, List.setIfInBounds_toArray, List.set_cons_zero, List.set_cons_succ])
                refine' wpAny_take (i := 11) ?hijb87 (by kernel_rfl) (by kernel_rfl) (by kernel_rfl) ?hqjb87 (Or.inl ⟨?hwjb87, ?hyjb87⟩) ?hrjb87
                case hijb87 => (simp only [List.getElem?_toArray, List.getElem?_cons_succ, List.getElem?_cons_zero]; rfl)
                case hqjb87 => exact fun _ _ _ h => h
                case hwjb87 => rfl
                case hyjb87 => (intro w0; go_simp; try with_reducible rfl)
                (try simp only [Act.put, List.setIfInBounds_toArray, List.set_cons_zero, List.set_cons_succ])
                refine wpAny_ready (rs := [12]) (by kernel_rfl) (by simp) ?_
                refine' AllReady.cons ?hijb85_12 (fun K hK => ?hrjb85_12) AllReady.nil
                case hijb85_12 => (simp only [List.getElem?_toArray, List.getElem?_cons_succ, List.getElem?_cons_zero]; rfl)
                case hrjb85_12 =>
                  refine want_store_run rfl rfl rfl rfl SA.out (hK _ _ ?_)
                  clear hK K
                  (try simp only [Act.put, List.setIfInBounds_toArray, List.set_cons_zero, List.set_cons_succ])
                  refine wpAny_done (by kernel_rfl) ?_ _
                  go_wp2_with fail
                  go_ret
                  exact ⟨rfl, FA.out⟩
          case hrjb82_8 =>
            go_simp
            refine hK _ _ ?_
            clear hK K
            (try simp only [Act.put, List.setIfInBounds_toArray, List.set_cons_zero, List.set_cons_succ])
            refine wpAny_ready (rs := [6]) (by kernel_rfl) (by simp) ?_
            refine' AllReady.cons ?hijb88_6 (fun K hK => ?hrjb88_6) AllReady.nil
            case hijb88_6 => (simp only [List.getElem?_toArray, List.getElem?_cons_succ, List.getElem?_cons_zero]; rfl)
            case hrjb88_6 =>
              refine want_append (t := 27) rfl rfl rfl rfl TB.out.run1 (hK _ _ ?_)
              clear hK K
              (try simp only [Act.put, List.setIfInBounds_toArray, List.set_cons_zero, List.set_cons_succ])
              refine wpAny_ready (rs := [9]) (by kernel_rfl) (by simp) ?_
              refine' AllReady.cons ?hijb89_9 (fun K hK => ?hrjb89_9) AllReady.nil
              case hijb89_9 => (simp only [List.getElem?_toArray, List.getElem?_cons_succ, List.getElem?_cons_zero]; rfl)
              case hrjb89_9 =>
                refine want_append (t := 27) rfl rfl rfl rfl TB.out.run2 (hK _ _ ?_)
                clear hK K
                (try simp only [Act.put, List.setIfInBounds_toArray, List.set_cons_zero, List.set_cons_succ])
                refine' wpAny_take (i := 10) ?hijb91 (by kernel_rfl) (by kernel_rfl) (by kernel_rfl) ?hqjb91 (Or.inl ⟨?hwjb91, ?hyjb91⟩) ?hrjb91
                case hijb91 => (simp only [List.getElem?_toArray, List.getElem?_cons_succ, List.getElem?_cons_zero]; rfl)
                case hqjb91 => exact fun _ _ _ h => h
                case hwjb91 => rfl
                case hyjb91 => (intro w0; go_simp; try with_reducible rfl)
                (try simp only [Act.put, List.setIfInBounds_toArray, List.set_cons_zero, List.set_cons_succ])
                refine' wpAny_take (i := 11) ?hijb92 (by kernel_rfl) (by kernel_rfl) (by kernel_rfl) ?hqjb92 (Or.inl ⟨?hwjb92, ?hyjb92⟩) ?hrjb92
                case hijb92 => (simp only [List.getElem?_toArray, List.getElem?_cons_succ, List.getElem?_cons_zero]; rfl)
                case hqjb92 => exact fun _ _ _ h => h
                case hwjb92 => rfl
                case hyjb92 => (intro w0; go_simp; try with_reducible rfl)
                (try simp only [Act.put, List.setIfInBounds_toArray, List.set_cons_zero, List.set_cons_succ])
                refine wpAny_ready (rs := [12]) (by kernel_rfl) (by simp) ?_
                refine' AllReady.cons ?hijb90_12 (fun K hK => ?hrjb90_12) AllReady.nil
                case hijb90_12 => (simp only [List.getElem?_toArray, List.getElem?_cons_succ, List.getElem?_cons_zero]; rfl)
                case hrjb90_12 =>
                  refine want_store_run rfl rfl rfl rfl SB.out (hK _ _ ?_)
                  clear hK K
                  (try simp only [Act.put, List.setIfInBounds_toArray, List.set_cons_zero, List.set_cons_succ])
                  refine wpAny_done (by kernel_rfl) ?_ _
                  go_wp2_with fail
                  go_ret
                  exact ⟨rfl, FB.out⟩
        case hrjb81_8 =>
          go_simp
          refine hK _ _ ?_
          clear hK K
          (try simp only [Act.put, List.setIfInBounds_toArray, List.set_cons_zero, List.set_cons_succ])
          refine wpAny_ready (rs := [5]) (by kernel_rfl) (by simp) ?_
          refine' AllReady.cons ?hijb93_5 (fun K hK => ?hrjb93_5) AllReady.nil
          case hijb93_5 => (simp only [List.getElem?_toArray, List.getElem?_cons_succ, List.getElem?_cons_zero]; rfl)
          case hrjb93_5 =>
            go_simp
            refine hK _ _ ?_
            clear hK K
            (try simp only [Act.put, List.setIfInBounds_toArray, List.set_cons_zero, List.set_cons_succ])
            refine wpAny_ready (rs := [6]) (by kernel_rfl) (by simp) ?_
            refine' AllReady.cons ?hijb94_6 (fun K hK => ?hrjb94_6) AllReady.nil
            case hijb94_6 => (simp only [List.getElem?_toArray, List.getElem?_cons_succ, List.getElem?_cons_zero]; rfl)
            case hrjb94_6 =>
              refine want_append (t := 27) rfl rfl rfl rfl TB.out.run1 (hK _ _ ?_)
              clear hK K
              (try simp only [Act.put, List.setIfInBounds_toArray, List.set_cons_zero, List.set_cons_succ])
              refine wpAny_ready (rs := [9]) (by kernel_rfl) (by simp) ?_
              refine' AllReady.cons ?hijb95_9 (fun K hK => ?hrjb95_9) AllReady.nil
              case hijb95_9 => (simp only [List.getElem?_toArray, List.getElem?_cons_succ, List.getElem?_cons_zero]; rfl)
              case hrjb95_9 =>
                refine want_append (t := 27) rfl rfl rfl rfl TB.out.run2 (hK _ _ ?_)
                clear hK K
                (try simp only [Act.put, List.setIfInBounds_toArray, List.set_cons_zero, List.set_cons_succ])
                refine' wpAny_take (i := 10) ?hijb97 (by kernel_rfl) (by kernel_rfl) (by kernel_rfl) ?hqjb97 (Or.inl ⟨?hwjb97, ?hyjb97⟩) ?hrjb97
                case hijb97 => (simp only [List.getElem?_toArray, List.getElem?_cons_succ, List.getElem?_cons_zero]; rfl)
                case hqjb97 => exact fun _ _ _ h => h
                case hwjb97 => rfl
                case hyjb97 => (intro w0; go_simp; try with_reducible rfl)
                (try simp only [Act.put, List.setIfInBounds_toArray, List.set_cons_zero, List.set_cons_succ])
                refine' wpAny_take (i := 11) ?hijb98 (by kernel_rfl) (by kernel_rfl) (by kernel_rfl) ?hqjb98 (Or.inl ⟨?hwjb98, ?hyjb98⟩) ?hrjb98
                case hijb98 => (simp only [List.getElem?_toArray, List.getElem?_cons_succ, List.getElem?_cons_zero]; rfl)
                case hqjb98 => exact fun _ _ _ h => h
                case hwjb98 => rfl
                case hyjb98 => (intro w0; go_simp; try with_reducible rfl)
                (try simp only [Act.put, List.setIfInBounds_toArray, List.set_cons_zero, List.set_cons_succ])
                refine wpAny_ready (rs := [12]) (by kernel_rfl) (by simp) ?_
                refine' AllReady.cons ?hijb96_12 (fun K hK => ?hrjb96_12) AllReady.nil
                case hijb96_12 => (simp only [List.getElem?_toArray, List.getElem?_cons_succ, List.getElem?_cons_zero]; rfl)
                case hrjb96_12 =>
                  refine want_store_run rfl rfl rfl rfl SB.out (hK _ _ ?_)
                  clear hK K
                  (try simp only [Act.put, List.setIfInBounds_toArray, List.set_cons_zero, List.set_cons_succ])
                  refine wpAny_done (by kernel_rfl) ?_ _
                  go_wp2_with fail
                  go_ret
                  exact ⟨rfl, FB.out⟩
      case hrjb80_5 =>
        go_simp
        refine hK _ _ ?_
        clear hK K
        (try simp only [Act.put, List.setIfInBounds_toArray, List.set_cons_zero, List.set_cons_succ])
        refine wpAny_ready (rs := [1, 8]) (by kernel_rfl) (by simp) ?_
        refine' AllReady.cons ?hijb99_1 (fun K hK => ?hrjb99_1) (AllReady.cons ?hijb99_8 (fun K hK => ?hrjb99_8) AllReady.nil)
        case hijb99_1 => (simp only [List.getElem?_toArray, List.getElem?_cons_succ, List.getElem?_cons_zero]; rfl)
        case hijb99_8 => (simp only [List.getElem?_toArray, List.getElem?_cons_succ, List.getElem?_cons_zero]; rfl)
        case hrjb99_1 =>
          go_simp
          refine hK _ _ ?_
          clear hK K
          (try simp only [Act.put, List.setIfInBounds_toArray, List.set_cons_zero, List.set_cons_succ])
          refine wpAny_ready (rs := [6, 8]) (by kernel_rfl) (by simp) ?_
          refine' AllReady.cons ?hijb100_6 (fun K hK => ?hrjb100_6) (AllReady.cons ?hijb100_8 (fun K hK => ?hrjb100_8) AllReady.nil)
          case hijb100_6 => (simp only [List.getElem?_toArray, List.getElem?_cons_succ, List.getElem?_cons_zero]; rfl)
          case hijb100_8 => (simp only [List.getElem?_toArray, List.getElem?_cons_succ, List.getElem?_cons_zero]; rfl)
          case hrjb100_6 =>
            refine want_append (t := 27) rfl rfl rfl rfl TA.out.run1 (hK _ _ ?_)
            clear hK K
            (try simp only [Act.put, List.setIfInBounds_toArray, List.set_cons_zero, List.set_cons_succ])
            refine wpAny_ready (rs := [8]) (by kernel_rfl) (by simp) ?_
            refine' AllReady.cons ?hijb101_8 (fun K hK => ?hrjb101_8) AllReady.nil
            case hijb101_8 => (simp only [List.getElem?_toArray, List.getElem?_cons_succ, List.getElem?_cons_zero]; rfl)
            case hrjb101_8 =>
              go_simp
              refine hK _ _ ?_
              clear hK K
              (try simp only [Act.put, List.setIfInBounds_toArray, List.set_cons_zero, List.set_cons_succ])
              refine wpAny_ready (rs := [9]) (by kernel_rfl) (by simp) ?_
              refine' AllReady.cons ?hijb102_9 (fun K hK => ?hrjb102_9) AllReady.nil
              case hijb102_9 => (simp only [List.getElem?_toArray, List.getElem?_cons_succ, List.getElem?_cons_zero]; rfl)
              case hrjb102_9 =>
                refine want_append (t := 27) rfl rfl rfl rfl TA.out.run2 (hK _ _ ?_)
                clear hK K
                (try simp only [Act.put, List.setIfInBounds_toArray, List.set_cons_zero, List.set_cons_succ])
                refine' wpAny_take (i := 10) ?hijb104 (by kernel_rfl) (by kernel_rfl) (by kernel_rfl) ?hqjb104 (Or.inl ⟨?hwjb104, ?hyjb104⟩) ?hrjb104
                case hijb104 => (simp only [List.getElem?_toArray, List.getElem?_cons_succ, List.getElem?_cons_zero]; rfl)
                case hqjb104 => exact fun _ _ _ h => h
                case hwjb104 => rfl
                case hyjb104 => (intro w0; go_simp; try with_reducible rfl)
                (try simp only [Act.put, List.setIfInBounds_toArray, List.set_cons_zero, List.set_cons_succ])
                refine' wpAny_take (i := 11) ?hijb105 (by kernel_rfl) (by kernel_rfl) (by kernel_rfl) ?hqjb105 (Or.inl ⟨?hwjb105, ?hyjb105⟩) ?hrjb105
                case hijb105 => (simp only [List.getElem?_toArray, List.getElem?_cons_succ, List.getElem?_cons_zero]; rfl)
                case hqjb105 => exact fun _ _ _ h => h
                case hwjb105 => rfl
                case hyjb105 => (intro w0; go_simp; try with_reducible rfl)
                (try simp only [Act.put, List.setIfInBounds_toArray, List.set_cons_zero, List.set_cons_succ])
                refine wpAny_ready (rs := [12]) (by kernel_rfl) (by simp) ?_
                refine' AllReady.cons ?hijb103_12 (fun K hK => ?hrjb103_12) AllReady.nil
                case hijb103_12 => (simp only [List.getElem?_toArray, List.getElem?_cons_succ, List.getElem?_cons_zero]; rfl)
                case hrjb103_12 =>
                  refine want_store_run rfl rfl rfl rfl SA.out (hK _ _ ?_)
                  clear hK K
                  (try simp only [Act.put, List.setIfInBounds_toArray, List.set_cons_zero, List.set_cons_succ])
                  refine wpAny_done (by kernel_rfl) ?_ _
                  go_wp2_with fail
                  go_ret
                  exact ⟨rfl, FA.out⟩
          case hrjb100_8 =>
            go_simp
            refine hK _ _ ?_
            clear hK K
            (try simp only [Act.put, List.setIfInBounds_toArray, List.set_cons_zero, List.set_cons_succ])
            refine wpAny_ready (rs := [6]) (by kernel_rfl) (by simp) ?_
            refine' AllReady.cons ?hijb106_6 (fun K hK => ?hrjb106_6) AllReady.nil
            case hijb106_6 => (simp only [List.getElem?_toArray, List.getElem?_cons_succ, List.getElem?_cons_zero]; rfl)
            case hrjb106_6 =>
              refine want_append (t := 27) rfl rfl rfl rfl TB.out.run1 (hK _ _ ?_)
              clear hK K
              (try simp only [Act.put, List.setIfInBounds_toArray, List.set_cons_zero, List.set_cons_succ])
              refine wpAny_ready (rs := [9]) (by kernel_rfl) (by simp) ?_
              refine' AllReady.cons ?hijb107_9 (fun K hK => ?hrjb107_9) AllReady.nil
              case hijb107_9 => (simp only [List.getElem?_toArray, List.getElem?_cons_succ, List.getElem?_cons_zero]; rfl)
              case hrjb107_9 =>
                refine want_append (t := 27) rfl rfl rfl rfl TB.out.run2 (hK _ _ ?_)
                clear hK K
                (try simp only [Act.put, List.setIfInBounds_toArray, List.set_cons_zero, List.set_cons_succ])
                refine' wpAny_take (i := 10) ?hijb109 (by kernel_rfl) (by kernel_rfl) (by kernel_rfl) ?hqjb109 (Or.inl ⟨?hwjb109, ?hyjb109⟩) ?hrjb109
                case hijb109 => (simp only [List.getElem?_toArray, List.getElem?_cons_succ, List.getElem?_cons_zero]; rfl)
                case hqjb109 => exact fun _ _ _ h => h
                case hwjb109 => rfl
                case hyjb109 => (intro w0; go_simp; try with_reducible rfl)
                (try simp only [Act.put, List.setIfInBounds_toArray, List.set_cons_zero, List.set_cons_succ])
                refine' wpAny_take (i := 11) ?hijb110 (by kernel_rfl) (by kernel_rfl) (by kernel_rfl) ?hqjb110 (Or.inl ⟨?hwjb110, ?hyjb110⟩) ?hrjb110
                case hijb110 => (simp only [List.getElem?_toArray, List.getElem?_cons_succ, List.getElem?_cons_zero]; rfl)
                case hqjb110 => exact fun _ _ _ h => h
                case hwjb110 => rfl
                case hyjb110 => (intro w0; go_simp; try with_reducible rfl)
                (try simp only [Act.put, List.setIfInBounds_toArray, List.set_cons_zero, List.set_cons_succ])
                refine wpAny_ready (rs := [12]) (by kernel_rfl) (by simp) ?_
                refine' AllReady.cons ?hijb108_12 (fun K hK => ?hrjb108_12) AllReady.nil
                case hijb108_12 => (simp only [List.getElem?_toArray, List.getElem?_cons_succ, List.getElem?_cons_zero]; rfl)
                case hrjb108_12 =>
                  refine want_store_run rfl rfl rfl rfl SB.out (hK _ _ ?_)
                  clear hK K
                  (try simp only [Act.put, List.setIfInBounds_toArray, List.set_cons_zero, List.set_cons_succ])
                  refine wpAny_done (by kernel_rfl) ?_ _
                  go_wp2_with fail
                  go_ret
                  exact ⟨rfl, FB.out⟩
        case hrjb99_8 =>
          go_simp
          refine hK _ _ ?_
          clear hK K
          (try simp only [Act.put, List.setIfInBounds_toArray, List.set_cons_zero, List.set_cons_succ])
          refine wpAny_ready (rs := [1]) (by kernel_rfl) (by simp) ?_
          refine' AllReady.cons ?hijb111_1 (fun K hK => ?hrjb111_1) AllReady.nil
          case hijb111_1 => (simp only [List.getElem?_toArray, List.getElem?_cons_succ, List.getElem?_cons_zero]; rfl)
          case hrjb111_1 =>
            go_simp
            refine hK _ _ ?_
            clear hK K
            (try simp only [Act.put, List.setIfInBounds_toArray, List.set_cons_zero, List.set_cons_succ])
            refine wpAny_ready (rs := [6]) (by kernel_rfl) (by simp) ?_
            refine' AllReady.cons ?hijb112_6 (fun K hK => ?hrjb112_6) AllReady.nil
            case hijb112_6 => (simp only [List.getElem?_toArray, List.getElem?_cons_succ, List.getElem?_cons_zero]; rfl)
            case hrjb112_6 =>
              refine want_append (t := 27) rfl rfl rfl rfl TC.out.run1 (hK _ _ ?_)
              clear hK K
              (try simp only [Act.put, List.setIfInBounds_toArray, List.set_cons_zero, List.set_cons_succ])
              refine wpAny_ready (rs := [9]) (by kernel_rfl) (by simp) ?_
              refine' AllReady.cons ?hijb113_9 (fun K hK => ?hrjb113_9) AllReady.nil
              case hijb113_9 => (simp only [List.getElem?_toArray, List.getElem?_cons_succ, List.getElem?_cons_zero]; rfl)
              case hrjb113_9 =>
                refine want_append (t := 27) rfl rfl rfl rfl TC.out.run2 (hK _ _ ?_)
                clear hK K
                (try simp only [Act.put, List.setIfInBounds_toArray, List.set_cons_zero, List.set_cons_succ])
                refine' wpAny_take (i := 10) ?hijb115 (by kernel_rfl) (by kernel_rfl) (by kernel_rfl) ?hqjb115 (Or.inl ⟨?hwjb115, ?hyjb115⟩) ?hrjb115
                case hijb115 => (simp only [List.getElem?_toArray, List.getElem?_cons_succ, List.getElem?_cons_zero]; rfl)
                case hqjb115 => exact fun _ _ _ h => h
                case hwjb115 => rfl
                case hyjb115 => (intro w0; go_simp; try with_reducible rfl)
                (try simp only [Act.put, List.setIfInBounds_toArray, List.set_cons_zero, List.set_cons_succ])
                refine' wpAny_take (i := 11) ?hijb116 (by kernel_rfl) (by kernel_rfl) (by kernel_rfl) ?hqjb116 (Or.inl ⟨?hwjb116, ?hyjb116⟩) ?hrjb116
                case hijb116 => (simp only [List.getElem?_toArray, List.getElem?_cons_succ, List.getElem?_cons_zero]; rfl)
                case hqjb116 => exact fun _ _ _ h => h
                case hwjb116 => rfl
                case hyjb116 => (intro w0; go_simp; try with_reducible rfl)
                (try simp only [Act.put, List.setIfInBounds_toArray, List.set_cons_zero, List.set_cons_succ])
                refine wpAny_ready (rs := [12]) (by kernel_rfl) (by simp) ?_
                refine' AllReady.cons ?hijb114_12 (fun K hK => ?hrjb114_12) AllReady.nil
                case hijb114_12 => (simp only [List.getElem?_toArray, List.getElem?_cons_succ, List.getElem?_cons_zero]; rfl)
                case hrjb114_12 =>
                  refine want_store_run rfl rfl rfl rfl SC.out (hK _ _ ?_)
                  clear hK K
                  (try simp only [Act.put, List.setIfInBounds_toArray, List.set_cons_zero, List.set_cons_succ])
                  refine wpAny_done (by kernel_rfl) ?_ _
                  go_wp2_with fail
                  go_ret
                  exact ⟨rfl, FC.out⟩
      case hrjb80_8 =>
        go_simp
        refine hK _ _ ?_
        clear hK K
        (try simp only [Act.put, List.setIfInBounds_toArray, List.set_cons_zero, List.set_cons_succ])
        refine wpAny_ready (rs := [1, 5]) (by kernel_rfl) (by simp) ?_
        refine' AllReady.cons ?hijb117_1 (fun K hK => ?hrjb117_1) (AllReady.cons ?hijb117_5 (fun K hK => ?hrjb117_5) AllReady.nil)
        case hijb117_1 => (simp only [List.getElem?_toArray, List.getElem?_cons_succ, List.getElem?_cons_zero]; rfl)
        case hijb117_5 => (simp only [List.getElem?_toArray, List.getElem?_cons_succ, List.getElem?_cons_zero]; rfl)
        case hrjb117_1 =>
          go_simp
          refine hK _ _ ?_
          clear hK K
          (try simp only [Act.put, List.setIfInBounds_toArray, List.set_cons_zero, List.set_cons_succ])
          refine wpAny_ready (rs := [5]) (by kernel_rfl) (by simp) ?_
          refine' AllReady.cons ?hijb118_5 (fun K hK => ?hrjb118_5) AllReady.nil
          case hijb118_5 => (simp only [List.getElem?_toArray, List.getElem?_cons_succ, List.getElem?_cons_zero]; rfl)
          case hrjb118_5 =>
            go_simp
            refine hK _ _ ?_
            clear hK K
            (try simp only [Act.put, List.setIfInBounds_toArray, List.set_cons_zero, List.set_cons_succ])
            refine wpAny_ready (rs := [6]) (by kernel_rfl) (by simp) ?_
            refine' AllReady.cons ?hijb119_6 (fun K hK => ?hrjb119_6) AllReady.nil
            case hijb119_6 => (simp only [List.getElem?_toArray, List.getElem?_cons_succ, List.getElem?_cons_zero]; rfl)
            case hrjb119_6 =>
              refine want_append (t := 27) rfl rfl rfl rfl TC.out.run1 (hK _ _ ?_)
              clear hK K
              (try simp only [Act.put, List.setIfInBounds_toArray, List.set_cons_zero, List.set_cons_succ])
              refine wpAny_ready (rs := [9]) (by kernel_rfl) (by simp) ?_
              refine' AllReady.cons ?hijb120_9 (fun K hK => ?hrjb120_9) AllReady.nil
              case hijb120_9 => (simp only [List.getElem?_toArray, List.getElem?_cons_succ, List.getElem?_cons_zero]; rfl)
              case hrjb120_9 =>
                refine want_append (t := 27) rfl rfl rfl rfl TC.out.run2 (hK _ _ ?_)
                clear hK K
                (try simp only [Act.put, List.setIfInBounds_toArray, List.set_cons_zero, List.set_cons_succ])
                refine' wpAny_take (i := 10) ?hijb122 (by kernel_rfl) (by kernel_rfl) (by kernel_rfl) ?hqjb122 (Or.inl ⟨?hwjb122, ?hyjb122⟩) ?hrjb122
                case hijb122 => (simp only [List.getElem?_toArray, List.getElem?_cons_succ, List.getElem?_cons_zero]; rfl)
                case hqjb122 => exact fun _ _ _ h => h
                case hwjb122 => rfl
                case hyjb122 => (intro w0; go_simp; try with_reducible rfl)
                (try simp only [Act.put, List.setIfInBounds_toArray, List.set_cons_zero, List.set_cons_succ])
                refine' wpAny_take (i := 11) ?hijb123 (by kernel_rfl) (by kernel_rfl) (by kernel_rfl) ?hqjb123 (Or.inl ⟨?hwjb123, ?hyjb123⟩) ?hrjb123
                case hijb123 => (simp only [List.getElem?_toArray, List.getElem?_cons_succ, List.getElem?_cons_zero]; rfl)
                case hqjb123 => exact fun _ _ _ h => h
                case hwjb123 => rfl
                case hyjb123 => (intro w0; go_simp; try with_reducible rfl)
                (try simp only [Act.put, List.setIfInBounds_toArray, List.set_cons_zero, List.set_cons_succ])
                refine wpAny_ready (rs := [12]) (by kernel_rfl) (by simp) ?_
                refine' AllReady.cons ?hijb121_12 (fun K hK => ?hrjb121_12) AllReady.nil
                case hijb121_12 => (simp only [List.getElem?_toArray, List.getElem?_cons_succ, List.getElem?_cons_zero]; rfl)
                case hrjb121_12 =>
                  refine want_store_run rfl rfl rfl rfl SC.out (hK _ _ ?_)
                  clear hK K
                  (try simp only [Act.put, List.setIfInBounds_toArray, List.set_cons_zero, List.set_cons_succ])
                  refine wpAny_done (by kernel_rfl) ?_ _
                  go_wp2_with fail
                  go_ret
                  exact ⟨rfl, FC.out⟩
        case hrjb117_5 =>
          go_simp
          refine hK _ _ ?_
          clear hK K
          (try simp only [Act.put, List.setIfInBounds_toArray, List.set_cons_zero, List.set_cons_succ])
          refine wpAny_ready (rs := [1]) (by kernel_rfl) (by simp) ?_
          refine' AllReady.cons ?hijb124_1 (fun K hK => ?hrjb124_1) AllReady.nil
          case hijb124_1 => (simp only [List.getElem?_toArray, List.getElem?_cons_succ, List.getElem?_cons_zero]; rfl)
          case hrjb124_1 =>
            go_simp
            refine hK _ _ ?_
            clear hK K
            (try simp only [Act.put, List.setIfInBounds_toArray, List.set_cons_zero, List.set_cons_succ])
            refine wpAny_ready (rs := [6]) (by kernel_rfl) (by simp) ?_
            refine' AllReady.cons ?hijb125_6 (fun K hK => ?hrjb125_6) AllReady.nil
            case hijb125_6 => (simp only [List.getElem?_toArray, List.getElem?_cons_succ, List.getElem?_cons_zero]; rfl)
            case hrjb125_6 =>
              refine want_append (t := 27) rfl rfl rfl rfl TC.out.run1 (hK _ _ ?_)
              clear hK K
              (try simp only [Act.put, List.setIfInBounds_toArray, List.set_cons_zero, List.set_cons_succ])
              refine wpAny_ready (rs := [9]) (by kernel_rfl) (by simp) ?_
              refine' AllReady.cons ?hijb126_9 (fun K hK => ?hrjb126_9) AllReady.nil
              case hijb126_9 => (simp only [List.getElem?_toArray, List.getElem?_cons_succ, List.getElem?_cons_zero]; rfl)
              case hrjb126_9 =>
                refine want_append (t := 27) rfl rfl rfl rfl TC.out.run2 (hK _ _ ?_)
                clear hK K
                (try simp only [Act.put, List.setIfInBounds_toArray, List.set_cons_zero, List.set_cons_succ])
                refine' wpAny_take (i := 10) ?hijb128 (by kernel_rfl) (by kernel_rfl) (by kernel_rfl) ?hqjb128 (Or.inl ⟨?hwjb128, ?hyjb128⟩) ?hrjb128
                case hijb128 => (simp only [List.getElem?_toArray, List.getElem?_cons_succ, List.getElem?_cons_zero]; rfl)
                case hqjb128 => exact fun _ _ _ h => h
                case hwjb128 => rfl
                case hyjb128 => (intro w0; go_simp; try with_reducible rfl)
                (try simp only [Act.put, List.setIfInBounds_toArray, List.set_cons_zero, List.set_cons_succ])
                refine' wpAny_take (i := 11) ?hijb129 (by kernel_rfl) (by kernel_rfl) (by kernel_rfl) ?hqjb129 (Or.inl ⟨?hwjb129, ?hyjb129⟩) ?hrjb129
                case hijb129 => (simp only [List.getElem?_toArray, List.getElem?_cons_succ, List.getElem?_cons_zero]; rfl)
                case hqjb129 => exact fun _ _ _ h => h
                case hwjb129 => rfl
                case hyjb129 => (intro w0; go_simp; try with_reducible rfl)
                (try simp only [Act.put, List.setIfInBounds_toArray, List.set_cons_zero, List.set_cons_succ])
                refine wpAny_ready (rs := [12]) (by kernel_rfl) (by simp) ?_
                refine' AllReady.cons ?hijb127_12 (fun K hK => ?hrjb127_12) AllReady.nil
                case hijb127_12 => (simp only [List.getElem?_toArray, List.getElem?_cons_succ, List.getElem?_cons_zero]; rfl)
                case hrjb127_12 =>
                  refine want_store_run rfl rfl rfl rfl SC.out (hK _ _ ?_)
                  clear hK K
                  (try simp only [Act.put, List.setIfInBounds_toArray, List.set_cons_zero, List.set_cons_succ])
                  refine wpAny_done (by kernel_rfl) ?_ _
                  go_wp2_with fail
                  go_ret
                  exact ⟨rfl, FC.out⟩
end Go.Proofs.YtkbbeioednhefaaGreatDoor.jn
