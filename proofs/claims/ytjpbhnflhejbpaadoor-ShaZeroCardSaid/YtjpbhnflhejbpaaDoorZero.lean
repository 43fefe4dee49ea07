/-
  The walk of ShaZero.
-/
import Derived.Test.YtjpbhnflhejbpaaDoorLaw
import Derived.Deep.RegionHeld3
namespace Go.Proofs.YtjpbhnflhejbpaaDoor.sha
open Go.RowKit Go.Proofs.YtjpbhnflhejbpaaDoor.mem

/-- what the one statement of ShaZero keeps -/
def ZS (w0 w : World) : Prop := ZHash w (some ⟨w0.heap.size, 0, none⟩) ∧ Blk w (w0.heap.size + 1) 24 (bv z32).toArray ∧ Tab w ∧ Below w0.heap.size w0 w
theorem ZS.next {w0 w w' : World} (h : ZS w0 w) (hb : Below w.heap.size w w') : ZS w0 w' :=
  ⟨h.1.next hb, h.2.1.below hb h.2.1.lt, h.2.2.1.next hb, h.2.2.2.trans (hb.mono h.2.2.2.size)⟩
theorem ZS.drew {w0 w : World} (h : ZS w0 w) : ZS w0 w.drew := ⟨h.1, h.2.1, h.2.2.1, h.2.2.2.drew⟩
theorem run_loadrow {w : World} {g : Nat} (h : Blk w g 24 (bv z32).toArray) : (Instr.loadAt 24 (.pointer (some ⟨g, 0, none⟩))).run Tryd.prog w = .ok (.agg (bv z32).toArray) w := by
  refine run_loadAt_mid w g 0 32 _ 5 (bv z32) (fun j v hv => ?_) Tryd.underlying24 (by rw [info24]; rfl)
  rw [Nat.zero_add, Blk.cell h, List.getElem?_toArray]
  exact hv
theorem nil_not_zero : (digest [] == z32) = false := by rw [digest_nil]; rfl

set_option maxHeartbeats 1000000 in
set_option maxRecDepth 100000 in
theorem zero_walk (s : ByteArray) (w : World) (hT : Tab w) : Calls Tryd.prog 6 #[.string s] w fun e w' => e = .returned (.bool true) ∧ Below w.heap.size w w' := by
  obtain ⟨w3, hw3⟩ : ∃ x, x = (w.alloc (.cells zcells.toArray 41)).alloc (.cells (bv z32).toArray 24) := ⟨_, rfl⟩
  have HS3 : Hid (ZS w w3) := Lib.hid (by
    have hb : Below w.heap.size w w3 := by rw [hw3]; exact ((Below.refl _ _).alloc (Nat.le_refl _) _).alloc (by simp) _
    refine ⟨.inr ⟨_, rfl, ?_⟩, ?_, hT.next hb, hb⟩
    · rw [hw3]; exact (Blk.new _ _ _).alloc _
    · rw [hw3]; exact Blk.at_ (by simp) _ _)
  have HW3 := Lib.hid hw3
  have hz := zero41
  have he1 := fun u : World => eql_same u []
  have he2 := fun u : World => (neq_id u (digest []) z32 (digest_len _) rfl).trans (by rw [nil_not_zero])
  clear hw3 hT
  go_enter Tryd.func6, Tryd.ntmps6
  go_upto_region 4 with fail
  refine wp_at HW3.out.symm ?_
  clear HW3 hz
  refine wp_region_held_drew (S := ZS w) (by kernel_rfl) ?_ (fun hHeld => ?_)
  · exact HS3.out.drew
  refine' wpAnyH_take (i := 0) ?hiz0 (by kernel_rfl) (by kernel_rfl) (by kernel_rfl) ?hqz0 (Or.inl ⟨?hwz0, ?hyz0⟩) (by assumption) ?hrz0
  case hiz0 => (simp only [List.getElem?_toArray, List.getElem?_cons_succ, List.getElem?_cons_zero]; rfl)
  case hqz0 => exact fun _ _ _ h => h
  case hwz0 => rfl
  case hyz0 => (intro w0 hSw; clear hSw; go_simp; try with_reducible rfl)
  (try simp only [Act.put, List.setIfInBounds_toArray, List.set_cons_zero, List.set_cons_succ])
  refine' wpAnyH_take (i := 1) ?hiz1 (by kernel_rfl) (by kernel_rfl) (by kernel_rfl) ?hqz1 (Or.inl ⟨?hwz1, ?hyz1⟩) (by assumption) ?hrz1
  case hiz1 => (simp only [List.getElem?_toArray, List.getElem?_cons_succ, List.getElem?_cons_zero]; rfl)
  case hqz1 => exact fun _ _ _ h => h
  case hwz1 => rfl
  case hyz1 => (intro w0 hSw; clear hSw; go_simp; try with_reducible rfl)
  (try simp only [Act.put, List.setIfInBounds_toArray, List.set_cons_zero, List.set_cons_succ])
  refine' wpAnyH_take (i := 3) ?hiz3 (by kernel_rfl) (by kernel_rfl) (by kernel_rfl) ?hqz3 (Or.inl ⟨?hwz3, ?hyz3⟩) (by assumption) ?hrz3
  case hiz3 => (simp only [List.getElem?_toArray, List.getElem?_cons_succ, List.getElem?_cons_zero]; rfl)
  case hqz3 => exact fun _ _ _ h => h
  case hwz3 => rfl
  case hyz3 => (intro w0 hSw; clear hSw; go_simp; try with_reducible rfl)
  (try simp only [Act.put, List.setIfInBounds_toArray, List.set_cons_zero, List.set_cons_succ])
  refine' wpAnyH_take (i := 6) ?hiz6 (by kernel_rfl) (by kernel_rfl) (by kernel_rfl) ?hqz6 (Or.inl ⟨?hwz6, ?hyz6⟩) (by assumption) ?hrz6
  case hiz6 => (simp only [List.getElem?_toArray, List.getElem?_cons_succ, List.getElem?_cons_zero]; rfl)
  case hqz6 => exact fun _ _ _ h => h
  case hwz6 => rfl
  case hyz6 => (intro w0 hSw; clear hSw; go_simp; try with_reducible rfl)
  (try simp only [Act.put, List.setIfInBounds_toArray, List.set_cons_zero, List.set_cons_succ])
  refine wpAnyH_ready (rs := [2]) (by kernel_rfl) (by simp) ?_
  refine' AllReadyH.cons ?hiz2 (fun K hK => ?hrz2) AllReadyH.nil
  case hiz2 => (simp only [List.getElem?_toArray, List.getElem?_cons_succ, List.getElem?_cons_zero]; rfl)
  go_simp
  (refine (write_zero none s _ (.inl rfl)).mono ?_; rintro e wA ⟨rfl, rfl⟩)
  refine hK.out _ _ hHeld (fun hHeld => ?_)
  clear hK K
  (try simp only [Act.put, List.setIfInBounds_toArray, List.set_cons_zero, List.set_cons_succ])
  refine wpAnyH_ready (rs := [4]) (by kernel_rfl) (by simp) ?_
  refine' AllReadyH.cons ?hiz4 (fun K hK => ?hrz4) AllReadyH.nil
  case hiz4 => (simp only [List.getElem?_toArray, List.getElem?_cons_succ, List.getElem?_cons_zero]; rfl)
  go_simp
  (refine (write_zero (some ⟨w.heap.size, 0, none⟩) s _ hHeld.1).mono ?_; rintro e wA ⟨rfl, rfl⟩)
  refine hK.out _ _ hHeld (fun hHeld => ?_)
  clear hK K
  (try simp only [Act.put, List.setIfInBounds_toArray, List.set_cons_zero, List.set_cons_succ])
  refine' wpAnyH_take (i := 5) ?hiz5 (by kernel_rfl) (by kernel_rfl) (by kernel_rfl) ?hqz5 (Or.inl ⟨?hwz5, ?hyz5⟩) (by assumption) ?hrz5
  case hiz5 => (simp only [List.getElem?_toArray, List.getElem?_cons_succ, List.getElem?_cons_zero]; rfl)
  case hqz5 => exact fun _ _ _ h => h
  case hwz5 => rfl
  case hyz5 => (intro w0 hSw; clear hSw; go_simp; try with_reducible rfl)
  (try simp only [Act.put, List.setIfInBounds_toArray, List.set_cons_zero, List.set_cons_succ])
  refine wpAnyH_ready (rs := [7]) (by kernel_rfl) (by simp) ?_
  refine' AllReadyH.cons ?hiz7 (fun K hK => ?hrz7) AllReadyH.nil
  case hiz7 => (simp only [List.getElem?_toArray, List.getElem?_cons_succ, List.getElem?_cons_zero]; rfl)
  go_simp
  (refine (len_zero none _ (.inl rfl)).mono ?_; rintro e wA ⟨rfl, rfl⟩)
  refine hK.out _ _ hHeld (fun hHeld => ?_)
  clear hK K
  (try simp only [Act.put, List.setIfInBounds_toArray, List.set_cons_zero, List.set_cons_succ])
  refine' wpAnyH_take (i := 8) ?hiz8 (by kernel_rfl) (by kernel_rfl) (by kernel_rfl) ?hqz8 (Or.inl ⟨?hwz8, ?hyz8⟩) (by assumption) ?hrz8
  case hiz8 => (simp only [List.getElem?_toArray, List.getElem?_cons_succ, List.getElem?_cons_zero]; rfl)
  case hqz8 => exact fun _ _ _ h => h
  case hwz8 => rfl
  case hyz8 => (intro w0 hSw; clear hSw; go_simp; try with_reducible rfl)
  (try simp only [Act.put, List.setIfInBounds_toArray, List.set_cons_zero, List.set_cons_succ])
  refine wpAnyH_ready (rs := [9]) (by kernel_rfl) (by simp) ?_
  refine' AllReadyH.cons ?hiz9 (fun K hK => ?hrz9) AllReadyH.nil
  case hiz9 => (simp only [List.getElem?_toArray, List.getElem?_cons_succ, List.getElem?_cons_zero]; rfl)
  go_simp
  (refine (len_zero (some ⟨w.heap.size, 0, none⟩) _ hHeld.1).mono ?_; rintro e wA ⟨rfl, rfl⟩)
  refine hK.out _ _ hHeld (fun hHeld => ?_)
  clear hK K
  (try simp only [Act.put, List.setIfInBounds_toArray, List.set_cons_zero, List.set_cons_succ])
  refine' wpAnyH_take (i := 10) ?hiz10 (by kernel_rfl) (by kernel_rfl) (by kernel_rfl) ?hqz10 (Or.inl ⟨?hwz10, ?hyz10⟩) (by assumption) ?hrz10
  case hiz10 => (simp only [List.getElem?_toArray, List.getElem?_cons_succ, List.getElem?_cons_zero]; rfl)
  case hqz10 => exact fun _ _ _ h => h
  case hwz10 => rfl
  case hyz10 => (intro w0 hSw; clear hSw; go_simp; try with_reducible rfl)
  (try simp only [Act.put, List.setIfInBounds_toArray, List.set_cons_zero, List.set_cons_succ])
  refine' wpAnyH_take (i := 11) ?hiz11 (by kernel_rfl) (by kernel_rfl) (by kernel_rfl) ?hqz11 (Or.inl ⟨?hwz11, ?hyz11⟩) (by assumption) ?hrz11
  case hiz11 => (simp only [List.getElem?_toArray, List.getElem?_cons_succ, List.getElem?_cons_zero]; rfl)
  case hqz11 => exact fun _ _ _ h => h
  case hwz11 => rfl
  case hyz11 => (intro w0 hSw; clear hSw; go_simp; try with_reducible rfl)
  (try simp only [Act.put, List.setIfInBounds_toArray, List.set_cons_zero, List.set_cons_succ])
  refine' wpAnyH_take (i := 12) ?hiz12 (by kernel_rfl) (by kernel_rfl) (by kernel_rfl) ?hqz12 (Or.inl ⟨?hwz12, ?hyz12⟩) (by assumption) ?hrz12
  case hiz12 => (simp only [List.getElem?_toArray, List.getElem?_cons_succ, List.getElem?_cons_zero]; rfl)
  case hqz12 => exact fun _ _ _ h => h
  case hwz12 => rfl
  case hyz12 => (intro w0 hSw; clear hSw; go_simp; try with_reducible rfl)
  (try simp only [Act.put, List.setIfInBounds_toArray, List.set_cons_zero, List.set_cons_succ])
  refine' wpAnyH_take (i := 13) ?hiz13 (by kernel_rfl) (by kernel_rfl) (by kernel_rfl) ?hqz13 (Or.inl ⟨?hwz13, ?hyz13⟩) (by assumption) ?hrz13
  case hiz13 => (simp only [List.getElem?_toArray, List.getElem?_cons_succ, List.getElem?_cons_zero]; rfl)
  case hqz13 => exact fun _ _ _ h => h
  case hwz13 => rfl
  case hyz13 => (intro w0 hSw; clear hSw; go_simp; try with_reducible rfl)
  (try simp only [Act.put, List.setIfInBounds_toArray, List.set_cons_zero, List.set_cons_succ])
  refine wpAnyH_ready (rs := [14]) (by kernel_rfl) (by simp) ?_
  refine' AllReadyH.cons ?hiz14 (fun K hK => ?hrz14) AllReadyH.nil
  case hiz14 => (simp only [List.getElem?_toArray, List.getElem?_cons_succ, List.getElem?_cons_zero]; rfl)
  go_simp
  (refine (hsum_zero none _ (.inl rfl) hHeld.2.2.1).mono ?_; rintro e wA ⟨rfl, hbA⟩)
  have hNx := hHeld.next hbA
  clear hHeld hbA
  refine hK.out _ _ hNx (fun hHeld => ?_)
  clear hNx
  clear hK K
  (try simp only [Act.put, List.setIfInBounds_toArray, List.set_cons_zero, List.set_cons_succ])
  refine wpAnyH_ready (rs := [15]) (by kernel_rfl) (by simp) ?_
  refine' AllReadyH.cons ?hiz15 (fun K hK => ?hrz15) AllReadyH.nil
  case hiz15 => (simp only [List.getElem?_toArray, List.getElem?_cons_succ, List.getElem?_cons_zero]; rfl)
  go_simp
  (refine (sum_any ⟨#[]⟩ _ hHeld.2.2.1 (by decide)).mono ?_; rintro e wA ⟨rfl, hbA⟩)
  have hNx := hHeld.next hbA
  clear hHeld hbA
  refine hK.out _ _ hNx (fun hHeld => ?_)
  clear hNx
  clear hK K
  (try simp only [Act.put, List.setIfInBounds_toArray, List.set_cons_zero, List.set_cons_succ])
  refine' wpAnyH_take (i := 16) ?hiz16 (by kernel_rfl) (by kernel_rfl) (by kernel_rfl) ?hqz16 (Or.inl ⟨?hwz16, ?hyz16⟩) (by assumption) ?hrz16
  case hiz16 => (simp only [List.getElem?_toArray, List.getElem?_cons_succ, List.getElem?_cons_zero]; rfl)
  case hqz16 => exact fun _ _ _ h => h
  case hwz16 => rfl
  case hyz16 => (intro w0 hSw; clear hSw; go_simp; try with_reducible rfl)
  (try simp only [Act.put, List.setIfInBounds_toArray, List.set_cons_zero, List.set_cons_succ])
  refine' wpAnyH_take (i := 17) ?hiz17 (by kernel_rfl) (by kernel_rfl) (by kernel_rfl) ?hqz17 (Or.inl ⟨?hwz17, ?hyz17⟩) (by assumption) ?hrz17
  case hiz17 => (simp only [List.getElem?_toArray, List.getElem?_cons_succ, List.getElem?_cons_zero]; rfl)
  case hqz17 => exact fun _ _ _ h => h
  case hwz17 => rfl
  case hyz17 => (intro w0 hSw; clear hSw; go_simp; try with_reducible rfl)
  (try simp only [Act.put, List.setIfInBounds_toArray, List.set_cons_zero, List.set_cons_succ])
  refine' wpAnyH_take (i := 18) ?hiz18 (by kernel_rfl) (by kernel_rfl) (by kernel_rfl) ?hqz18 (Or.inl ⟨?hwz18, ?hyz18⟩) (by assumption) ?hrz18
  case hiz18 => (simp only [List.getElem?_toArray, List.getElem?_cons_succ, List.getElem?_cons_zero]; rfl)
  case hqz18 => exact fun _ _ _ h => h
  case hwz18 => rfl
  case hyz18 => (intro w0 hSw; clear hSw; go_simp; try with_reducible rfl)
  (try simp only [Act.put, List.setIfInBounds_toArray, List.set_cons_zero, List.set_cons_succ])
  refine wpAnyH_ready (rs := [19]) (by kernel_rfl) (by simp) ?_
  refine' AllReadyH.cons ?hiz19 (fun K hK => ?hrz19) AllReadyH.nil
  case hiz19 => (simp only [List.getElem?_toArray, List.getElem?_cons_succ, List.getElem?_cons_zero]; rfl)
  go_simp
  (refine (hsum_zero (some ⟨w.heap.size, 0, none⟩) _ hHeld.1 hHeld.2.2.1).mono ?_; rintro e wA ⟨rfl, hbA⟩)
  have hNx := hHeld.next hbA
  clear hHeld hbA
  refine hK.out _ _ hNx (fun hHeld => ?_)
  clear hNx
  clear hK K
  (try simp only [Act.put, List.setIfInBounds_toArray, List.set_cons_zero, List.set_cons_succ])
  refine wpAnyH_ready (rs := [20]) (by kernel_rfl) (by simp) ?_
  refine' AllReadyH.cons ?hiz20 (fun K hK => ?hrz20) AllReadyH.nil
  case hiz20 => (simp only [List.getElem?_toArray, List.getElem?_cons_succ, List.getElem?_cons_zero]; rfl)
  go_simp
  (refine (rsum_any ⟨#[]⟩ _ (by decide)).mono ?_; rintro e wA ⟨rfl, hbA⟩)
  have hNx := hHeld.next hbA
  clear hHeld hbA
  refine hK.out _ _ hNx (fun hHeld => ?_)
  clear hNx
  clear hK K
  (try simp only [Act.put, List.setIfInBounds_toArray, List.set_cons_zero, List.set_cons_succ])
  refine' wpAnyH_take (i := 21) ?hiz21 (by kernel_rfl) (by kernel_rfl) (by kernel_rfl) ?hqz21 (Or.inl ⟨?hwz21, ?hyz21⟩) (by assumption) ?hrz21
  case hiz21 => (simp only [List.getElem?_toArray, List.getElem?_cons_succ, List.getElem?_cons_zero]; rfl)
  case hqz21 => exact fun _ _ _ h => h
  case hwz21 => rfl
  case hyz21 => (intro w0 hSw; clear hSw; go_simp; try with_reducible rfl)
  (try simp only [Act.put, List.setIfInBounds_toArray, List.set_cons_zero, List.set_cons_succ])
  refine' wpAnyH_take (i := 22) ?hiz22 (by kernel_rfl) (by kernel_rfl) (by kernel_rfl) ?hqz22 (Or.inl ⟨?hwz22, ?hyz22⟩) (by assumption) ?hrz22
  case hiz22 => (simp only [List.getElem?_toArray, List.getElem?_cons_succ, List.getElem?_cons_zero]; rfl)
  case hqz22 => exact fun _ _ _ h => h
  case hwz22 => rfl
  case hyz22 => (intro w0 hSw; clear hSw; go_simp; try with_reducible rfl)
  (try simp only [Act.put, List.setIfInBounds_toArray, List.set_cons_zero, List.set_cons_succ])
  refine' wpAnyH_take (i := 23) ?hiz23 (by kernel_rfl) (by kernel_rfl) (by kernel_rfl) ?hqz23 (Or.inl ⟨?hwz23, ?hyz23⟩) (by assumption) ?hrz23
  case hiz23 => (simp only [List.getElem?_toArray, List.getElem?_cons_succ, List.getElem?_cons_zero]; rfl)
  case hqz23 => exact fun _ _ _ h => h
  case hwz23 => rfl
  case hyz23 => (intro w0 hSw; clear hSw; go_simp; try with_reducible rfl)
  (try simp only [Act.put, List.setIfInBounds_toArray, List.set_cons_zero, List.set_cons_succ])
  refine' wpAnyH_take (i := 24) ?hiz24 (by kernel_rfl) (by kernel_rfl) (by kernel_rfl) ?hqz24 (Or.inl ⟨?hwz24, ?hyz24⟩) (by assumption) ?hrz24
  case hiz24 => (simp only [List.getElem?_toArray, List.getElem?_cons_succ, List.getElem?_cons_zero]; rfl)
  case hqz24 => exact fun _ _ _ h => h
  case hwz24 => rfl
  case hyz24 => (intro w0 hSw; clear hSw; go_simp; try with_reducible rfl)
  (try simp only [Act.put, List.setIfInBounds_toArray, List.set_cons_zero, List.set_cons_succ])
  refine' wpAnyH_take (i := 26) ?hiz26 (by kernel_rfl) (by kernel_rfl) (by kernel_rfl) ?hqz26 (Or.inl ⟨?hwz26, ?hyz26⟩) (by assumption) ?hrz26
  case hiz26 => (simp only [List.getElem?_toArray, List.getElem?_cons_succ, List.getElem?_cons_zero]; rfl)
  case hqz26 => exact fun _ _ _ h => h
  case hwz26 => rfl
  case hyz26 => exact fun w0 hSw => run_exec_load rfl rfl (run_loadrow hSw.2.1)
  (try simp only [Act.put, List.setIfInBounds_toArray, List.set_cons_zero, List.set_cons_succ])
  refine wpAnyH_ready (rs := [25]) (by kernel_rfl) (by simp) ?_
  refine' AllReadyH.cons ?hiz25 (fun K hK => ?hrz25) AllReadyH.nil
  case hiz25 => (simp only [List.getElem?_toArray, List.getElem?_cons_succ, List.getElem?_cons_zero]; rfl)
  go_simp
  (refine (hsum_zero none _ (.inl rfl) hHeld.2.2.1).mono ?_; rintro e wA ⟨rfl, hbA⟩)
  have hNx := hHeld.next hbA
  clear hHeld hbA
  refine hK.out _ _ hNx (fun hHeld => ?_)
  clear hNx
  clear hK K
  (try simp only [Act.put, List.setIfInBounds_toArray, List.set_cons_zero, List.set_cons_succ])
  refine' wpAnyH_take (i := 27) ?hiz27 (by kernel_rfl) (by kernel_rfl) (by kernel_rfl) ?hqz27 (Or.inl ⟨?hwz27, ?hyz27⟩) (by assumption) ?hrz27
  case hiz27 => (simp only [List.getElem?_toArray, List.getElem?_cons_succ, List.getElem?_cons_zero]; rfl)
  case hqz27 => exact fun _ _ _ h => h
  case hwz27 => rfl
  case hyz27 => (intro w0 hSw; clear hSw; go_simp; try with_reducible rfl)
  (try simp only [Act.put, List.setIfInBounds_toArray, List.set_cons_zero, List.set_cons_succ])
  refine' wpAnyH_take (i := 28) ?hiz28 (by kernel_rfl) (by kernel_rfl) (by kernel_rfl) ?hqz28 (Or.inl ⟨?hwz28, ?hyz28⟩) (by assumption) ?hrz28
  case hiz28 => (simp only [List.getElem?_toArray, List.getElem?_cons_succ, List.getElem?_cons_zero]; rfl)
  case hqz28 => exact fun _ _ _ h => h
  case hwz28 => rfl
  case hyz28 => (intro w0 hSw; clear hSw; go_simp; try with_reducible rfl)
  (try simp only [Act.put, List.setIfInBounds_toArray, List.set_cons_zero, List.set_cons_succ])
  refine' wpAnyH_take (i := 29) ?hiz29 (by kernel_rfl) (by kernel_rfl) (by kernel_rfl) ?hqz29 (Or.inl ⟨?hwz29, ?hyz29⟩) (by assumption) ?hrz29
  case hiz29 => (simp only [List.getElem?_toArray, List.getElem?_cons_succ, List.getElem?_cons_zero]; rfl)
  case hqz29 => exact fun _ _ _ h => h
  case hwz29 => rfl
  case hyz29 => (intro w0 hSw; clear hSw; go_simp; try with_reducible rfl)
  (try simp only [Act.put, List.setIfInBounds_toArray, List.set_cons_zero, List.set_cons_succ])
  refine wpAnyH_ready (rs := [30]) (by kernel_rfl) (by simp) ?_
  refine' AllReadyH.cons ?hiz30 (fun K hK => ?hrz30) AllReadyH.nil
  case hiz30 => (simp only [List.getElem?_toArray, List.getElem?_cons_succ, List.getElem?_cons_zero]; rfl)
  go_simp
  (refine (awake_any _ hHeld.2.2.1).mono ?_; rintro e wA ⟨rfl, hbA⟩)
  have hNx := hHeld.next hbA
  clear hHeld hbA
  refine hK.out _ _ hNx (fun hHeld => ?_)
  clear hNx
  clear hK K
  (try simp only [Act.put, List.setIfInBounds_toArray, List.set_cons_zero, List.set_cons_succ])
  refine' wpAnyH_take (i := 31) ?hiz31 (by kernel_rfl) (by kernel_rfl) (by kernel_rfl) ?hqz31 (Or.inl ⟨?hwz31, ?hyz31⟩) (by assumption) ?hrz31
  case hiz31 => (simp only [List.getElem?_toArray, List.getElem?_cons_succ, List.getElem?_cons_zero]; rfl)
  case hqz31 => exact fun _ _ _ h => h
  case hwz31 => rfl
  case hyz31 => (intro w0 hSw; clear hSw; go_simp; try with_reducible rfl)
  (try simp only [Act.put, List.setIfInBounds_toArray, List.set_cons_zero, List.set_cons_succ])
  refine' wpAnyH_take (i := 32) ?hiz32 (by kernel_rfl) (by kernel_rfl) (by kernel_rfl) ?hqz32 (Or.inl ⟨?hwz32, ?hyz32⟩) (by assumption) ?hrz32
  case hiz32 => (simp only [List.getElem?_toArray, List.getElem?_cons_succ, List.getElem?_cons_zero]; rfl)
  case hqz32 => exact fun _ _ _ h => h
  case hwz32 => rfl
  case hyz32 => (intro w0 hSw; clear hSw; go_simp; try with_reducible rfl)
  (try simp only [Act.put, List.setIfInBounds_toArray, List.set_cons_zero, List.set_cons_succ])
  refine wpAnyH_done (by kernel_rfl) ?_ _
  go_wp2_with fail
  go_ret
  exact ⟨rfl, hHeld.2.2.2⟩
end Go.Proofs.YtjpbhnflhejbpaaDoor.sha
