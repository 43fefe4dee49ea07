/-
 petrelref08.Put.
-/
import Derived.Test.YtpeneeddfgmjpaaGreatDoorHdck
import Derived.Deep.RegionHeld3
namespace Go.Proofs.YtpeneeddfgmjpaaGreatDoor.hdr
open Go.RowKit Go.Proofs.YtpeneeddfgmjpaaGreatDoor.mem Go.Proofs.YtpeneeddfgmjpaaGreatDoor.sha Go.Proofs.YtpeneeddfgmjpaaGreatDoor.ids
open Go.Proofs.YtpeneeddfgmjpaaGreatDoor.opn (b1 b2 b4 num txt idl byte rd rdN rdT rdI rdS rdL St Reads Stays endE zid mkId)

theorem ld_int {w : World} {a : Addr} {n : Int} (h : w.cell? a = some (.int .i64 n)) : (Instr.loadAt 3 (.pointer (some a))).run Tryz.prog w = .ok (.int .i64 n) w := by go_simp
theorem ld_str {w : World} {a : Addr} {s : ByteArray} (h : w.cell? a = some (.string s)) : (Instr.loadAt 9 (.pointer (some a))).run Tryz.prog w = .ok (.string s) w := by go_simp
theorem ld_ids {w : World} {a : Addr} {v : Value} (h : w.cell? a = some v) : (Instr.loadAt 22 (.pointer (some a))).run Tryz.prog w = .ok v w := by go_simp
structure PutS (w1 : World) (S : Nat) (h : Hd) (v : Value) (u : World) : Prop where
 blk : HdBlk u S h v
 low : S < u.heap.size
 row : ∃ t, Blk u S t (hdc h v).toArray
 rd : RdV u v h.parents
 below : Below w1.heap.size w1 u
theorem PutS.next {w1 : World} {S : Nat} {h : Hd} {v : Value} {u u' : World} (hr : h.commit.length = 32) (a : PutS w1 S h v u) (hb : Below u.heap.size u u') : PutS w1 S h v u' := by
 obtain ⟨t, hrow⟩ := a.row
 have hrow' := hrow.below hb hrow.lt
 exact ⟨HdBlk.of hrow' hr, hrow'.lt, ⟨t, hrow'⟩, a.rd.next hb, a.below.trans (hb.mono a.below.size)⟩
theorem tx_app3 (a b : List UInt8) : oct.tx (a ++ b) = oct.tx a ++ oct.tx b := (opn.tx_app a b).symm

set_option maxHeartbeats 4000000 in
set_option maxRecDepth 100000 in
theorem put_any (h : Hd) (v : Value) (w : World) (hr : h.commit.length = 32) (hv : RdV w v h.parents) (hm : h.parents.length ≤ 1000) (ht : h.topic.length ≤ 140737488351232) :
  Calls Tryz.prog 40 #[hdv h v] w fun e w' => e = .returned (.tuple #[.string (oct.tx (putH h).1), .int .i64 (putH h).2]) ∧ Below w.heap.size w w' := by
 obtain ⟨w1, hw1⟩ : ∃ u, u = w.alloc (.cells (hdc h v).toArray 26) := ⟨_, rfl⟩
 obtain ⟨S, hS⟩ : ∃ S, S = w.heap.size := ⟨_, rfl⟩
 have hX : Blk w1 S 26 (hdc h v).toArray := by rw [hw1, hS]; exact Blk.new w _ _
 have hB : Below w.heap.size w w1 := by rw [hw1]; exact (Below.refl _ _).alloc (Nat.le_refl _) _
 have hv1 := hv.next hB
 have HX := Lib.hid hX
 have HB := Lib.hid hB
 have HS := Lib.hid hS
 have HW := Lib.hid hw1
 have HR := Lib.hid hr
 have HV := Lib.hid hv1
 have HL := Lib.hid hm
 have HLD := Lib.hid (run_load_hd hX hr)
 have hck := check_any h v w1 hr hv1 hm ht
 have hput : putH h = if checkH h ≠ 0 then ([], checkH h) else (enH h, 0) := rfl
 obtain ⟨c, hc⟩ : ∃ c, checkH h = c := ⟨_, rfl⟩
 rw [hc] at hck hput
 have HCK := Lib.hid hck
 have HC := Lib.hid hc
 have HP := Lib.hid hput
 have hps : PutS w1 S h v w1 := ⟨HdBlk.of hX hr, hX.lt, ⟨_, hX⟩, hv1, Below.refl _ _⟩
 have HPS := Lib.hid hps
 clear hX hB hv1 hS hw1 hr hv hm ht hck hc hput hps
 unfold hdv
 by_cases h0 : c = 0
 ·
  subst h0
  have hC := HC.out
  obtain ⟨g0, g1, g2, g3, g4⟩ := check_parts hC
  have FIT := Lib.hid (fitsH hC HR.out HV.out.ok)
  have htl := (topic.kindOf_pos _ g3).2.1
  have HE : Hid (putH h = (enH h, 0)) := Lib.hid (by rw [HP.out, if_neg (by simp)])
  obtain ⟨s0, hs0⟩ : ∃ s, s = oct.tx (idl h.parents) := ⟨_, rfl⟩
  obtain ⟨s1, hs1⟩ : ∃ s, s = oct.tx (b4 h.height) := ⟨_, rfl⟩
  obtain ⟨s2, hs2⟩ : ∃ s, s = oct.tx (b1 h.topic.length) := ⟨_, rfl⟩
  obtain ⟨ts, hts⟩ : ∃ s, s = oct.tx h.topic := ⟨_, rfl⟩
  obtain ⟨s3, hs3⟩ : ∃ s, s = oct.tx (b1 h.author) := ⟨_, rfl⟩
  obtain ⟨s4, hs4⟩ : ∃ s, s = oct.tx (b4 h.seq) := ⟨_, rfl⟩
  obtain ⟨s5, hs5⟩ : ∃ s, s = oct.tx (b2 h.size) := ⟨_, rfl⟩
  obtain ⟨s6, hs6⟩ : ∃ s, s = oct.tx h.commit := ⟨_, rfl⟩
  have hpl : (idl h.parents).length ≤ 129 := by unfold idl; rw [List.length_append, opn.b1_len, flatH HV.out.ok]; omega
  have z0 : s0.size ≤ 129 := by rw [hs0, oct.tx_size]; exact hpl
  have z1 : s1.size = 4 := by rw [hs1, oct.tx_size]; rfl
  have z2 : s2.size = 1 := by rw [hs2, oct.tx_size]; rfl
  have zt : ts.size ≤ 12 := by rw [hts, oct.tx_size]; exact htl
  have z3 : s3.size = 1 := by rw [hs3, oct.tx_size]; rfl
  have z4 : s4.size = 4 := by rw [hs4, oct.tx_size]; rfl
  have z5 : s5.size = 2 := by rw [hs5, oct.tx_size]; rfl
  have z6 : s6.size = 32 := by rw [hs6, oct.tx_size]; exact HR.out
  have HALL : Hid (s0 ++ s1 ++ s2 ++ ts ++ s3 ++ s4 ++ s5 ++ s6 = oct.tx (enH h)) := Lib.hid (by
   rw [hs0, hs1, hs2, hts, hs3, hs4, hs5, hs6]
   unfold enH txt
   simp only [opn.tx_app, List.append_assoc])
  have hcI : ∀ u, PutS w1 S h v u → Calls Tryz.prog 72 #[v] u fun e w' => e = .returned (.string s0) ∧ Below u.heap.size u w' := fun u hu => by
   obtain ⟨ad, cap, hvf⟩ := hu.rd.form
   rw [hvf, hs0]
   exact opn.ids_any h.parents ad _ cap u (hvf ▸ hu.rd) (by omega)
  have HCI := Lib.hid hcI
  have f := FIT.out
  have HN1 := Lib.hid (fun u => num4_h h.height f.height.1 f.height.2 u)
  have HN2 := Lib.hid (fun u => num1_h (ts.size : Int) (by omega) (by omega) u)
  rw [show opn.b1 (ts.size : Int) = b1 h.topic.length by rw [hts, oct.tx_size], ← hs2] at HN2
  have HN3 := Lib.hid (fun u => num1_h h.author f.author.1 f.author.2 u)
  have HN4 := Lib.hid (fun u => num4_h h.seq f.seq.1 f.seq.2 u)
  have HN5 := Lib.hid (fun u => num2_h h.size f.size.1 f.size.2 u)
  have HN6 := Lib.hid (fun u => raw_any h.commit u HR.out)
  rw [← hs1] at HN1
  rw [← hs3] at HN3
  rw [← hs4] at HN4
  rw [← hs5] at HN5
  rw [← hs6] at HN6
  have HTS := Lib.hid hts
  have a1 : ¬ 9223372036854775807 < s0.size + s1.size := by omega
  have a2 : ¬ 9223372036854775807 < s0.size + s1.size + s2.size := by omega
  have a3 : ¬ 9223372036854775807 < s0.size + s1.size + s2.size + ts.size := by omega
  have a4 : ¬ 9223372036854775807 < s0.size + s1.size + s2.size + ts.size + s3.size := by omega
  have a5 : ¬ 9223372036854775807 < s0.size + s1.size + s2.size + ts.size + s3.size + s4.size := by omega
  have a6 : ¬ 9223372036854775807 < s0.size + s1.size + s2.size + ts.size + s3.size + s4.size + s5.size := by omega
  have a7 : ¬ 9223372036854775807 < s0.size + s1.size + s2.size + ts.size + s3.size + s4.size + s5.size + s6.size := by omega
  clear hC g0 g1 g2 g3 g4 htl hs0 hs1 hs2 hts hs3 hs4 hs5 hs6 hpl hcI f z0 z1 z2 zt z3 z4 z5 z6 HP HC
  go_enter Tryz.func40, Tryz.ntmps40
  go_upto_region 1 with fail
  refine wp_at HW.out.symm ?_
  rw [← HS.out]
  clear HW
  go_upto_region 4 with (first
   | ((with_reducible refine step_load (t := 26) (x := .tmp 1) (p := ?lpd1) (v := ?lvd1) ?lgd1 ?lod1 ?lxd1 ?lrd1 ?lhd1); (case lgd1 => rfl); (case lod1 => rfl); (case lxd1 => rfl); (case lrd1 => exact HLD.out))
   | (go_at_call 23; (with_reducible refine HCK.out.mono ?_); rintro e w2 ⟨rfl, hb2⟩; have H2 := Lib.hid (HPS.out.next HR.out hb2); clear hb2))
  refine wp_region_held_drew (S := PutS w1 S h v) (by kernel_rfl) ?_ (fun hHeld => ?_)
  ·
   exact H2.out.next HR.out ((Below.refl _ _).drew)
  refine' wpAnyH_take (i := 0) ?hihp0 (by kernel_rfl) (by kernel_rfl) (by kernel_rfl) ?hqhp0 (Or.inl ⟨?hwhp0, ?hyhp0⟩) (by assumption) ?hrhp0
  case hihp0 => (simp only [List.getElem?_toArray, List.getElem?_cons_succ, List.getElem?_cons_zero]; rfl)
  case hqhp0 => exact fun _ _ _ h => h
  case hwhp0 => rfl
  case hyhp0 => (intro w0 hSw; (try dsimp only at hSw); go_simp; try with_reducible rfl)
  (try simp only [Act.put, List.setIfInBounds_toArray, List.set_cons_zero, List.set_cons_succ])
  refine' wpAnyH_take (i := 1) ?hihp1 (by kernel_rfl) (by kernel_rfl) (by kernel_rfl) ?hqhp1 (Or.inl ⟨?hwhp1, ?hyhp1⟩) (by assumption) ?hrhp1
  case hihp1 => (simp only [List.getElem?_toArray, List.getElem?_cons_succ, List.getElem?_cons_zero]; rfl)
  case hqhp1 => exact fun _ _ _ h => h
  case hwhp1 => rfl
  case hyhp1 => exact fun w0 hSw => run_exec_load rfl rfl (ld_ids hSw.blk.parents)
  (try simp only [Act.put, List.setIfInBounds_toArray, List.set_cons_zero, List.set_cons_succ])
  refine' wpAnyH_take (i := 3) ?hihp3 (by kernel_rfl) (by kernel_rfl) (by kernel_rfl) ?hqhp3 (Or.inl ⟨?hwhp3, ?hyhp3⟩) (by assumption) ?hrhp3
  case hihp3 => (simp only [List.getElem?_toArray, List.getElem?_cons_succ, List.getElem?_cons_zero]; rfl)
  case hqhp3 => exact fun _ _ _ h => h
  case hwhp3 => rfl
  case hyhp3 => (intro w0 hSw; (try dsimp only at hSw); go_simp; try with_reducible rfl)
  (try simp only [Act.put, List.setIfInBounds_toArray, List.set_cons_zero, List.set_cons_succ])
  refine' wpAnyH_take (i := 4) ?hihp4 (by kernel_rfl) (by kernel_rfl) (by kernel_rfl) ?hqhp4 (Or.inl ⟨?hwhp4, ?hyhp4⟩) (by assumption) ?hrhp4
  case hihp4 => (simp only [List.getElem?_toArray, List.getElem?_cons_succ, List.getElem?_cons_zero]; rfl)
  case hqhp4 => exact fun _ _ _ h => h
  case hwhp4 => rfl
  case hyhp4 => exact fun w0 hSw => run_exec_load rfl rfl (ld_int hSw.blk.height)
  (try simp only [Act.put, List.setIfInBounds_toArray, List.set_cons_zero, List.set_cons_succ])
  refine' wpAnyH_take (i := 7) ?hihp7 (by kernel_rfl) (by kernel_rfl) (by kernel_rfl) ?hqhp7 (Or.inl ⟨?hwhp7, ?hyhp7⟩) (by assumption) ?hrhp7
  case hihp7 => (simp only [List.getElem?_toArray, List.getElem?_cons_succ, List.getElem?_cons_zero]; rfl)
  case hqhp7 => exact fun _ _ _ h => h
  case hwhp7 => rfl
  case hyhp7 => (intro w0 hSw; (try dsimp only at hSw); go_simp; try with_reducible rfl)
  (try simp only [Act.put, List.setIfInBounds_toArray, List.set_cons_zero, List.set_cons_succ])
  refine' wpAnyH_take (i := 8) ?hihp8 (by kernel_rfl) (by kernel_rfl) (by kernel_rfl) ?hqhp8 (Or.inl ⟨?hwhp8, ?hyhp8⟩) (by assumption) ?hrhp8
  case hihp8 => (simp only [List.getElem?_toArray, List.getElem?_cons_succ, List.getElem?_cons_zero]; rfl)
  case hqhp8 => exact fun _ _ _ h => h
  case hwhp8 => rfl
  case hyhp8 => exact fun w0 hSw => run_exec_load rfl rfl (ld_str (s := ts) (by rw [HTS.out]; exact hSw.blk.topic))
  (try simp only [Act.put, List.setIfInBounds_toArray, List.set_cons_zero, List.set_cons_succ])
  refine' wpAnyH_take (i := 9) ?hihp9 (by kernel_rfl) (by kernel_rfl) (by kernel_rfl) ?hqhp9 (Or.inl ⟨?hwhp9, ?hyhp9⟩) (by assumption) ?hrhp9
  case hihp9 => (simp only [List.getElem?_toArray, List.getElem?_cons_succ, List.getElem?_cons_zero]; rfl)
  case hqhp9 => exact fun _ _ _ h => h
  case hwhp9 => rfl
  case hyhp9 => (intro w0 hSw; (try dsimp only at hSw); go_simp; try with_reducible rfl)
  (try simp only [Act.put, List.setIfInBounds_toArray, List.set_cons_zero, List.set_cons_succ])
  refine' wpAnyH_take (i := 12) ?hihp12 (by kernel_rfl) (by kernel_rfl) (by kernel_rfl) ?hqhp12 (Or.inl ⟨?hwhp12, ?hyhp12⟩) (by assumption) ?hrhp12
  case hihp12 => (simp only [List.getElem?_toArray, List.getElem?_cons_succ, List.getElem?_cons_zero]; rfl)
  case hqhp12 => exact fun _ _ _ h => h
  case hwhp12 => rfl
  case hyhp12 => (intro w0 hSw; (try dsimp only at hSw); go_simp; try with_reducible rfl)
  (try simp only [Act.put, List.setIfInBounds_toArray, List.set_cons_zero, List.set_cons_succ])
  refine' wpAnyH_take (i := 13) ?hihp13 (by kernel_rfl) (by kernel_rfl) (by kernel_rfl) ?hqhp13 (Or.inl ⟨?hwhp13, ?hyhp13⟩) (by assumption) ?hrhp13
  case hihp13 => (simp only [List.getElem?_toArray, List.getElem?_cons_succ, List.getElem?_cons_zero]; rfl)
  case hqhp13 => exact fun _ _ _ h => h
  case hwhp13 => rfl
  case hyhp13 => exact fun w0 hSw => run_exec_load rfl rfl (ld_str (s := ts) (by rw [HTS.out]; exact hSw.blk.topic))
  (try simp only [Act.put, List.setIfInBounds_toArray, List.set_cons_zero, List.set_cons_succ])
  refine' wpAnyH_take (i := 15) ?hihp15 (by kernel_rfl) (by kernel_rfl) (by kernel_rfl) ?hqhp15 (Or.inl ⟨?hwhp15, ?hyhp15⟩) (by assumption) ?hrhp15
  case hihp15 => (simp only [List.getElem?_toArray, List.getElem?_cons_succ, List.getElem?_cons_zero]; rfl)
  case hqhp15 => exact fun _ _ _ h => h
  case hwhp15 => rfl
  case hyhp15 => (intro w0 hSw; (try dsimp only at hSw); go_simp; try with_reducible rfl)
  (try simp only [Act.put, List.setIfInBounds_toArray, List.set_cons_zero, List.set_cons_succ])
  refine' wpAnyH_take (i := 16) ?hihp16 (by kernel_rfl) (by kernel_rfl) (by kernel_rfl) ?hqhp16 (Or.inl ⟨?hwhp16, ?hyhp16⟩) (by assumption) ?hrhp16
  case hihp16 => (simp only [List.getElem?_toArray, List.getElem?_cons_succ, List.getElem?_cons_zero]; rfl)
  case hqhp16 => exact fun _ _ _ h => h
  case hwhp16 => rfl
  case hyhp16 => exact fun w0 hSw => run_exec_load rfl rfl (ld_int hSw.blk.author)
  (try simp only [Act.put, List.setIfInBounds_toArray, List.set_cons_zero, List.set_cons_succ])
  refine' wpAnyH_take (i := 19) ?hihp19 (by kernel_rfl) (by kernel_rfl) (by kernel_rfl) ?hqhp19 (Or.inl ⟨?hwhp19, ?hyhp19⟩) (by assumption) ?hrhp19
  case hihp19 => (simp only [List.getElem?_toArray, List.getElem?_cons_succ, List.getElem?_cons_zero]; rfl)
  case hqhp19 => exact fun _ _ _ h => h
  case hwhp19 => rfl
  case hyhp19 => (intro w0 hSw; (try dsimp only at hSw); go_simp; try with_reducible rfl)
  (try simp only [Act.put, List.setIfInBounds_toArray, List.set_cons_zero, List.set_cons_succ])
  refine' wpAnyH_take (i := 20) ?hihp20 (by kernel_rfl) (by kernel_rfl) (by kernel_rfl) ?hqhp20 (Or.inl ⟨?hwhp20, ?hyhp20⟩) (by assumption) ?hrhp20
  case hihp20 => (simp only [List.getElem?_toArray, List.getElem?_cons_succ, List.getElem?_cons_zero]; rfl)
  case hqhp20 => exact fun _ _ _ h => h
  case hwhp20 => rfl
  case hyhp20 => exact fun w0 hSw => run_exec_load rfl rfl (ld_int hSw.blk.seq)
  (try simp only [Act.put, List.setIfInBounds_toArray, List.set_cons_zero, List.set_cons_succ])
  refine' wpAnyH_take (i := 23) ?hihp23 (by kernel_rfl) (by kernel_rfl) (by kernel_rfl) ?hqhp23 (Or.inl ⟨?hwhp23, ?hyhp23⟩) (by assumption) ?hrhp23
  case hihp23 => (simp only [List.getElem?_toArray, List.getElem?_cons_succ, List.getElem?_cons_zero]; rfl)
  case hqhp23 => exact fun _ _ _ h => h
  case hwhp23 => rfl
  case hyhp23 => (intro w0 hSw; (try dsimp only at hSw); go_simp; try with_reducible rfl)
  (try simp only [Act.put, List.setIfInBounds_toArray, List.set_cons_zero, List.set_cons_succ])
  refine' wpAnyH_take (i := 24) ?hihp24 (by kernel_rfl) (by kernel_rfl) (by kernel_rfl) ?hqhp24 (Or.inl ⟨?hwhp24, ?hyhp24⟩) (by assumption) ?hrhp24
  case hihp24 => (simp only [List.getElem?_toArray, List.getElem?_cons_succ, List.getElem?_cons_zero]; rfl)
  case hqhp24 => exact fun _ _ _ h => h
  case hwhp24 => rfl
  case hyhp24 => exact fun w0 hSw => run_exec_load rfl rfl (ld_int hSw.blk.size)
  (try simp only [Act.put, List.setIfInBounds_toArray, List.set_cons_zero, List.set_cons_succ])
  refine' wpAnyH_take (i := 27) ?hihp27 (by kernel_rfl) (by kernel_rfl) (by kernel_rfl) ?hqhp27 (Or.inl ⟨?hwhp27, ?hyhp27⟩) (by assumption) ?hrhp27
  case hihp27 => (simp only [List.getElem?_toArray, List.getElem?_cons_succ, List.getElem?_cons_zero]; rfl)
  case hqhp27 => exact fun _ _ _ h => h
  case hwhp27 => rfl
  case hyhp27 => (intro w0 hSw; (try dsimp only at hSw); go_simp; try with_reducible rfl)
  (try simp only [Act.put, List.setIfInBounds_toArray, List.set_cons_zero, List.set_cons_succ])
  refine' wpAnyH_take (i := 28) ?hihp28 (by kernel_rfl) (by kernel_rfl) (by kernel_rfl) ?hqhp28 (Or.inl ⟨?hwhp28, ?hyhp28⟩) (by assumption) ?hrhp28
  case hihp28 => (simp only [List.getElem?_toArray, List.getElem?_cons_succ, List.getElem?_cons_zero]; rfl)
  case hqhp28 => exact fun _ _ _ h => h
  case hwhp28 => rfl
  case hyhp28 => exact fun w0 hSw => run_exec_load rfl rfl ((hSw.blk.commit 0))
  (try simp only [Act.put, List.setIfInBounds_toArray, List.set_cons_zero, List.set_cons_succ])
  refine wpAnyH_ready (rs := [2]) (by kernel_rfl) (by simp) ?_
  refine' AllReadyH.cons ?hihp2 (fun K hK => ?hrhp2) AllReadyH.nil
  case hihp2 => (simp only [List.getElem?_toArray, List.getElem?_cons_succ, List.getElem?_cons_zero]; rfl)
  go_simp
  (refine (HCI.out _ hHeld).mono ?_; rintro e wx ⟨rfl, hbx⟩)
  refine hK.out _ _ ?_ (fun hHeld => ?_)
  ·
   exact hHeld.next HR.out hbx
  clear hK K
  (try simp only [Act.put, List.setIfInBounds_toArray, List.set_cons_zero, List.set_cons_succ])
  refine wpAnyH_ready (rs := [5]) (by kernel_rfl) (by simp) ?_
  refine' AllReadyH.cons ?hihp5 (fun K hK => ?hrhp5) AllReadyH.nil
  case hihp5 => (simp only [List.getElem?_toArray, List.getElem?_cons_succ, List.getElem?_cons_zero]; rfl)
  go_simp
  (refine (HN1.out _).mono ?_; rintro e wx ⟨rfl, hbx⟩)
  refine hK.out _ _ ?_ (fun hHeld => ?_)
  ·
   exact hHeld.next HR.out hbx
  clear hK K
  (try simp only [Act.put, List.setIfInBounds_toArray, List.set_cons_zero, List.set_cons_succ])
  refine' wpAnyH_take (i := 6) ?hihp6 (by kernel_rfl) (by kernel_rfl) (by kernel_rfl) ?hqhp6 (Or.inl ⟨?hwhp6, ?hyhp6⟩) (by assumption) ?hrhp6
  case hihp6 => (simp only [List.getElem?_toArray, List.getElem?_cons_succ, List.getElem?_cons_zero]; rfl)
  case hqhp6 => exact fun _ _ _ h => h
  case hwhp6 => rfl
  case hyhp6 => (intro w0 hSw; (try dsimp only at hSw); go_simp; try with_reducible rfl)
  (try simp only [Act.put, List.setIfInBounds_toArray, List.set_cons_zero, List.set_cons_succ])
  refine wpAnyH_ready (rs := [10]) (by kernel_rfl) (by simp) ?_
  refine' AllReadyH.cons ?hihp10 (fun K hK => ?hrhp10) AllReadyH.nil
  case hihp10 => (simp only [List.getElem?_toArray, List.getElem?_cons_succ, List.getElem?_cons_zero]; rfl)
  go_simp
  (refine (HN2.out _).mono ?_; rintro e wx ⟨rfl, hbx⟩)
  refine hK.out _ _ ?_ (fun hHeld => ?_)
  ·
   exact hHeld.next HR.out hbx
  clear hK K
  (try simp only [Act.put, List.setIfInBounds_toArray, List.set_cons_zero, List.set_cons_succ])
  refine' wpAnyH_take (i := 11) ?hihp11 (by kernel_rfl) (by kernel_rfl) (by kernel_rfl) ?hqhp11 (Or.inl ⟨?hwhp11, ?hyhp11⟩) (by assumption) ?hrhp11
  case hihp11 => (simp only [List.getElem?_toArray, List.getElem?_cons_succ, List.getElem?_cons_zero]; rfl)
  case hqhp11 => exact fun _ _ _ h => h
  case hwhp11 => rfl
  case hyhp11 => (intro w0 hSw; (try dsimp only at hSw); go_simp; try with_reducible rfl)
  (try simp only [Act.put, List.setIfInBounds_toArray, List.set_cons_zero, List.set_cons_succ])
  refine' wpAnyH_take (i := 14) ?hihp14 (by kernel_rfl) (by kernel_rfl) (by kernel_rfl) ?hqhp14 (Or.inl ⟨?hwhp14, ?hyhp14⟩) (by assumption) ?hrhp14
  case hihp14 => (simp only [List.getElem?_toArray, List.getElem?_cons_succ, List.getElem?_cons_zero]; rfl)
  case hqhp14 => exact fun _ _ _ h => h
  case hwhp14 => rfl
  case hyhp14 => (intro w0 hSw; (try dsimp only at hSw); go_simp; try with_reducible rfl)
  (try simp only [Act.put, List.setIfInBounds_toArray, List.set_cons_zero, List.set_cons_succ])
  refine wpAnyH_ready (rs := [17]) (by kernel_rfl) (by simp) ?_
  refine' AllReadyH.cons ?hihp17 (fun K hK => ?hrhp17) AllReadyH.nil
  case hihp17 => (simp only [List.getElem?_toArray, List.getElem?_cons_succ, List.getElem?_cons_zero]; rfl)
  go_simp
  (refine (HN3.out _).mono ?_; rintro e wx ⟨rfl, hbx⟩)
  refine hK.out _ _ ?_ (fun hHeld => ?_)
  ·
   exact hHeld.next HR.out hbx
  clear hK K
  (try simp only [Act.put, List.setIfInBounds_toArray, List.set_cons_zero, List.set_cons_succ])
  refine' wpAnyH_take (i := 18) ?hihp18 (by kernel_rfl) (by kernel_rfl) (by kernel_rfl) ?hqhp18 (Or.inl ⟨?hwhp18, ?hyhp18⟩) (by assumption) ?hrhp18
  case hihp18 => (simp only [List.getElem?_toArray, List.getElem?_cons_succ, List.getElem?_cons_zero]; rfl)
  case hqhp18 => exact fun _ _ _ h => h
  case hwhp18 => rfl
  case hyhp18 => (intro w0 hSw; (try dsimp only at hSw); go_simp; try with_reducible rfl)
  (try simp only [Act.put, List.setIfInBounds_toArray, List.set_cons_zero, List.set_cons_succ])
  refine wpAnyH_ready (rs := [21]) (by kernel_rfl) (by simp) ?_
  refine' AllReadyH.cons ?hihp21 (fun K hK => ?hrhp21) AllReadyH.nil
  case hihp21 => (simp only [List.getElem?_toArray, List.getElem?_cons_succ, List.getElem?_cons_zero]; rfl)
  go_simp
  (refine (HN4.out _).mono ?_; rintro e wx ⟨rfl, hbx⟩)
  refine hK.out _ _ ?_ (fun hHeld => ?_)
  ·
   exact hHeld.next HR.out hbx
  clear hK K
  (try simp only [Act.put, List.setIfInBounds_toArray, List.set_cons_zero, List.set_cons_succ])
  refine' wpAnyH_take (i := 22) ?hihp22 (by kernel_rfl) (by kernel_rfl) (by kernel_rfl) ?hqhp22 (Or.inl ⟨?hwhp22, ?hyhp22⟩) (by assumption) ?hrhp22
  case hihp22 => (simp only [List.getElem?_toArray, List.getElem?_cons_succ, List.getElem?_cons_zero]; rfl)
  case hqhp22 => exact fun _ _ _ h => h
  case hwhp22 => rfl
  case hyhp22 => (intro w0 hSw; (try dsimp only at hSw); go_simp; try with_reducible rfl)
  (try simp only [Act.put, List.setIfInBounds_toArray, List.set_cons_zero, List.set_cons_succ])
  refine wpAnyH_ready (rs := [25]) (by kernel_rfl) (by simp) ?_
  refine' AllReadyH.cons ?hihp25 (fun K hK => ?hrhp25) AllReadyH.nil
  case hihp25 => (simp only [List.getElem?_toArray, List.getElem?_cons_succ, List.getElem?_cons_zero]; rfl)
  go_simp
  (refine (HN5.out _).mono ?_; rintro e wx ⟨rfl, hbx⟩)
  refine hK.out _ _ ?_ (fun hHeld => ?_)
  ·
   exact hHeld.next HR.out hbx
  clear hK K
  (try simp only [Act.put, List.setIfInBounds_toArray, List.set_cons_zero, List.set_cons_succ])
  refine' wpAnyH_take (i := 26) ?hihp26 (by kernel_rfl) (by kernel_rfl) (by kernel_rfl) ?hqhp26 (Or.inl ⟨?hwhp26, ?hyhp26⟩) (by assumption) ?hrhp26
  case hihp26 => (simp only [List.getElem?_toArray, List.getElem?_cons_succ, List.getElem?_cons_zero]; rfl)
  case hqhp26 => exact fun _ _ _ h => h
  case hwhp26 => rfl
  case hyhp26 => (intro w0 hSw; (try dsimp only at hSw); go_simp; try with_reducible rfl)
  (try simp only [Act.put, List.setIfInBounds_toArray, List.set_cons_zero, List.set_cons_succ])
  refine wpAnyH_ready (rs := [29]) (by kernel_rfl) (by simp) ?_
  refine' AllReadyH.cons ?hihp29 (fun K hK => ?hrhp29) AllReadyH.nil
  case hihp29 => (simp only [List.getElem?_toArray, List.getElem?_cons_succ, List.getElem?_cons_zero]; rfl)
  go_simp
  (refine (HN6.out _).mono ?_; rintro e wx ⟨rfl, hbx⟩)
  refine hK.out _ _ ?_ (fun hHeld => ?_)
  ·
   exact hHeld.next HR.out hbx
  clear hK K
  (try simp only [Act.put, List.setIfInBounds_toArray, List.set_cons_zero, List.set_cons_succ])
  refine' wpAnyH_take (i := 30) ?hihp30 (by kernel_rfl) (by kernel_rfl) (by kernel_rfl) ?hqhp30 (Or.inl ⟨?hwhp30, ?hyhp30⟩) (by assumption) ?hrhp30
  case hihp30 => (simp only [List.getElem?_toArray, List.getElem?_cons_succ, List.getElem?_cons_zero]; rfl)
  case hqhp30 => exact fun _ _ _ h => h
  case hwhp30 => rfl
  case hyhp30 => (intro w0 hSw; (try dsimp only at hSw); go_simp; try with_reducible rfl)
  (try simp only [Act.put, List.setIfInBounds_toArray, List.set_cons_zero, List.set_cons_succ])
  refine' wpAnyH_take (i := 31) ?hihp31 (by kernel_rfl) (by kernel_rfl) (by kernel_rfl) ?hqhp31 (Or.inl ⟨?hwhp31, ?hyhp31⟩) (by assumption) ?hrhp31
  case hihp31 => (simp only [List.getElem?_toArray, List.getElem?_cons_succ, List.getElem?_cons_zero]; rfl)
  case hqhp31 => exact fun _ _ _ h => h
  case hwhp31 => rfl
  case hyhp31 => (intro w0 hSw; (try dsimp only at hSw); go_simp; try with_reducible rfl)
  (try simp only [Act.put, List.setIfInBounds_toArray, List.set_cons_zero, List.set_cons_succ])
  refine' wpAnyH_take (i := 32) ?hihp32 (by kernel_rfl) (by kernel_rfl) (by kernel_rfl) ?hqhp32 (Or.inl ⟨?hwhp32, ?hyhp32⟩) (by assumption) ?hrhp32
  case hihp32 => (simp only [List.getElem?_toArray, List.getElem?_cons_succ, List.getElem?_cons_zero]; rfl)
  case hqhp32 => exact fun _ _ _ h => h
  case hwhp32 => rfl
  case hyhp32 => (intro w0 hSw; (try dsimp only at hSw); go_simp; try with_reducible rfl)
  (try simp only [Act.put, List.setIfInBounds_toArray, List.set_cons_zero, List.set_cons_succ])
  refine wpAnyH_done (by kernel_rfl) ?_ _
  go_wp2_with fail
  go_ret2
  exact ⟨by rw [HE.out, ← HALL.out]; rfl, HB.out.trans (hHeld.below.mono HB.out.size)⟩
 ·
  have hne : (c != 0) = true := bne_iff_ne.2 h0
  have HE : Hid (putH h = ([], c)) := Lib.hid (by rw [HP.out, if_pos h0])
  clear h0
  go_enter Tryz.func40, Tryz.ntmps40
  go_upto_region 1 with fail
  refine wp_at HW.out.symm ?_
  rw [← HS.out]
  clear HW
  go_wp2_with (first
   | ((with_reducible refine step_load (t := 26) (x := .tmp 1) (p := ?lpd2) (v := ?lvd2) ?lgd2 ?lod2 ?lxd2 ?lrd2 ?lhd2); (case lgd2 => rfl); (case lod2 => rfl); (case lxd2 => rfl); (case lrd2 => exact HLD.out))
   | (go_at_call 23; with_reducible refine HCK.out.mono ?_; rintro e w2 ⟨rfl, hb2⟩))
  go_ret2
  exact ⟨by rw [HE.out]; rfl, HB.out.trans (hb2.mono HB.out.size)⟩
end Go.Proofs.YtpeneeddfgmjpaaGreatDoor.hdr
