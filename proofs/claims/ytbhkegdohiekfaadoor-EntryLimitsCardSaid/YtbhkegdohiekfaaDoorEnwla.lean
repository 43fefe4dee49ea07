/-
  The walk of EntryLimits, kinds 1, 2, by what entry's functions answer.
-/
import Derived.Test.YtbhkegdohiekfaaDoorEnwl
namespace Go.Proofs.YtbhkegdohiekfaaDoor.ent
open Go.RowKit Go.Proofs.YtbhkegdohiekfaaDoor.mem Go.Proofs.YtbhkegdohiekfaaDoor.sha Go.Proofs.YtbhkegdohiekfaaDoor.ids Go.Proofs.YtbhkegdohiekfaaDoor.rows
open Go.Proofs.YtbhkegdohiekfaaDoor.opn (b1 b2 b4 num txt idl byte rd rdN rdT rdI rdS rdL St Reads Stays endE zid mkId)
open Go.Proofs.YtbhkegdohiekfaaDoor.kit (Strs)

set_option maxHeartbeats 8000000 in
set_option maxRecDepth 100000 in
theorem lim1a {T : World → Prop} (hI : EnIs T) (k n : Int) (w : World) (hT : T w) (hn0 : 0 ≤ n) (hn1 : n ≤ 65535) (m : Nat) (hm : n.tmod 2000 = (m : Int)) (hm2 : m < 2000) (hk : k = 1) (hz0 : m = 0) :
    Calls Tryd.prog 6 #[.int .i64 k, .int .u16 n] w fun x w' => x = .returned (.bool true) ∧ Below w.heap.size w w' := by
  have HI := Lib.hid hI
  have HTW := Lib.hid hT
  have m0 : (0 : Int) ≤ (m : Int) := Int.natCast_nonneg _
  have m1 : (m : Int) < 2000 := by omega
  have hme : n % 2000 = (m : Int) := by rw [← Int.tmod_eq_emod_of_nonneg hn0]; exact hm
  obtain ⟨w1, hw1⟩ : ∃ u, u = w.alloc (.cells (bv (List.replicate m 0)).toArray 5) := ⟨_, rfl⟩
  have hb1 : Below w.heap.size w w1 := by rw [hw1]; exact (Below.refl _ _).alloc (Nat.le_refl _) _
  have hmk := run_make_m m (by omega) w
  have hx1 : Blk w1 w.heap.size 5 (bv (List.replicate m 0)).toArray := by rw [hw1]; exact Blk.new w _ _
  rw [← hw1] at hmk
  have hcv := str_zeros hx1
  obtain ⟨z, hz⟩ : ∃ z, z = oct.tx (List.replicate m 0) := ⟨_, rfl⟩
  rw [← hz] at hcv
  obtain ⟨e0, he0⟩ : ∃ e, e = zeE k [] m := ⟨_, rfl⟩
  have hbd : ∀ u : World, (Instr.build 25 #[(0, .int .i64 k), (2, .string z)]).run Tryd.prog u = .ok (env e0) u := fun u => by
    have := run_build_kb u k z
    rw [hz, oct.tx_list, ← hz] at this
    rw [he0]; exact this
  have he32 : e0.commit.length = 32 := by rw [he0]; exact zlen
  have HST := Lib.hid (run_hold w1 e0 he32)
  obtain ⟨w3, hw3⟩ : ∃ u, u = heldW w1 e0 := ⟨_, rfl⟩
  have hk3 := held_blk w1 e0
  have hb3 := held_below w1 e0
  rw [← hw3] at HST hk3 hb3
  have HB3 := Lib.hid (hb1.trans (hb3.mono hb1.size))
  have HT3 := Lib.hid (hI.next hT HB3.out)
  have HBD := Lib.hid hbd
  subst hk
  have hc : checkE (zeE 1 [] m) ≠ 0 := by rw [check_b 1 m (by decide), if_pos hz0]; decide
  have i1 : (m : Int) < 1 := by omega
  clear hz0
  have HLD := Lib.hid (run_load_en hk3 he32)
  have HB4 := HB3
  have hp := hI.put e0 w3 HT3.out he32 (by rw [he0]; exact Nat.zero_le _) (by rw [he0]; show (List.replicate m (0 : UInt8)).length ≤ _; rw [List.length_replicate]; omega)
  have he1z := he0
  have hpo := put_no (e := e0) (by rw [he1z]; exact hc)
  rw [hpo] at hp
  obtain ⟨s, hs⟩ : ∃ s, s = oct.tx [] := ⟨_, rfl⟩
  have sE : s.toList.isEmpty = true := by rw [hs, tx_emp]; rfl
  obtain ⟨f, hf⟩ : ∃ f, f = checkE e0 := ⟨_, rfl⟩
  have hfn : (f == 0) = false := beq_eq_false_iff_ne.2 (by rw [hf, he1z]; exact hc)
  have HFN : Hid (f ≠ 0) := Lib.hid (by rw [hf, he1z]; exact hc)
  simp only at hp
  rw [← hs, ← hf] at hp
  have HP := Lib.hid hp
  clear hI hT hb1 hx1 hw1 hz he0 hbd hw3 hb3 hp hpo hs he1z hc hk3 hf
  go_enter Tryd.func6, Tryd.ntmps6
  go_upto_region 2 with fail
  refine wp_region_lit ?_
  refine step_move rfl rfl ?_
  refine step_move rfl rfl ?_
  refine step_exec rfl (exec_make rfl rfl rfl hmk) ?_
  refine step_exec rfl (exec_convert rfl rfl hcv) ?_
  refine step_build (ps := #[(0, .int .i64 1), (2, .string z)]) rfl rfl (by first | rfl | kernel_rfl | simp [Act.put, Act.eval]) (HBD.out _) ?_
  simp only [Act.put, List.setIfInBounds_toArray, List.set_cons_zero, List.set_cons_succ]
  go_wp2_with (first
    | (refine step_move (x := .tmp 77777) rfl rfl ?_)
    | ((with_reducible refine step_store_run (t := 25) (x := .tmp 6) (y := .tmp 19) (p := ?splim1as) (v := ?svlim1as) (w' := ?swlim1as) ?sglim1as ?solim1as ?sxlim1as ?sylim1as ?srlim1as ?shlim1as); (case sglim1as => rfl); (case solim1as => rfl); (case sxlim1as => rfl); (case sylim1as => rfl); (case srlim1as => exact HST.out))
    | ((with_reducible refine step_load (t := 25) (x := .tmp 6) (p := ?lplim1al) (v := ?lvlim1al) ?lglim1al ?lolim1al ?lxlim1al ?lrlim1al ?lhlim1al); (case lglim1al => rfl); (case lolim1al => rfl); (case lxlim1al => rfl); (case lrlim1al => exact HLD.out))
    | (go_at_call 8; (with_reducible refine HP.out.mono ?_); rintro x w5 ⟨rfl, hb5⟩; have HB5 := Lib.hid (HB4.out.trans (hb5.mono HB4.out.size)); have HT5 := Lib.hid (HI.out.next HTW.out HB5.out))
    | (go_at_call 7; refine (awake_any HI.out _ HT5.out).mono ?_; rintro x w9 ⟨rfl, hb9⟩))
  all_goals go_ret
  all_goals first
    | exact ⟨rfl, HB5.out.trans (hb9.mono HB5.out.size)⟩
    | exact ⟨by simp; omega, HB5.out.trans (hb9.mono HB5.out.size)⟩
    | exact absurd rfl HFN.out

set_option maxHeartbeats 8000000 in
set_option maxRecDepth 100000 in
theorem lim1b {T : World → Prop} (hI : EnIs T) (k n : Int) (w : World) (hT : T w) (hn0 : 0 ≤ n) (hn1 : n ≤ 65535) (m : Nat) (hm : n.tmod 2000 = (m : Int)) (hm2 : m < 2000) (hk : k = 1) (h1 : 1 ≤ m) (h2 : m ≤ 256) :
    Calls Tryd.prog 6 #[.int .i64 k, .int .u16 n] w fun x w' => x = .returned (.bool true) ∧ Below w.heap.size w w' := by
  have HI := Lib.hid hI
  have HTW := Lib.hid hT
  have m0 : (0 : Int) ≤ (m : Int) := Int.natCast_nonneg _
  have m1 : (m : Int) < 2000 := by omega
  have hme : n % 2000 = (m : Int) := by rw [← Int.tmod_eq_emod_of_nonneg hn0]; exact hm
  obtain ⟨w1, hw1⟩ : ∃ u, u = w.alloc (.cells (bv (List.replicate m 0)).toArray 5) := ⟨_, rfl⟩
  have hb1 : Below w.heap.size w w1 := by rw [hw1]; exact (Below.refl _ _).alloc (Nat.le_refl _) _
  have hmk := run_make_m m (by omega) w
  have hx1 : Blk w1 w.heap.size 5 (bv (List.replicate m 0)).toArray := by rw [hw1]; exact Blk.new w _ _
  rw [← hw1] at hmk
  have hcv := str_zeros hx1
  obtain ⟨z, hz⟩ : ∃ z, z = oct.tx (List.replicate m 0) := ⟨_, rfl⟩
  rw [← hz] at hcv
  obtain ⟨e0, he0⟩ : ∃ e, e = zeE k [] m := ⟨_, rfl⟩
  have hbd : ∀ u : World, (Instr.build 25 #[(0, .int .i64 k), (2, .string z)]).run Tryd.prog u = .ok (env e0) u := fun u => by
    have := run_build_kb u k z
    rw [hz, oct.tx_list, ← hz] at this
    rw [he0]; exact this
  have he32 : e0.commit.length = 32 := by rw [he0]; exact zlen
  have HST := Lib.hid (run_hold w1 e0 he32)
  obtain ⟨w3, hw3⟩ : ∃ u, u = heldW w1 e0 := ⟨_, rfl⟩
  have hk3 := held_blk w1 e0
  have hb3 := held_below w1 e0
  rw [← hw3] at HST hk3 hb3
  have HB3 := Lib.hid (hb1.trans (hb3.mono hb1.size))
  have HT3 := Lib.hid (hI.next hT HB3.out)
  have HBD := Lib.hid hbd
  subst hk
  have hc : checkE (zeE 1 [] m) = 0 := by rw [check_b 1 m (by decide), if_neg (by omega), if_neg (by rw [show mostE 1 = 256 from rfl]; omega)]
  have i1 : (1 : Int) ≤ (m : Int) := by omega
  have i2 : (m : Int) ≤ 256 := by omega
  clear h1 h2
  have HLD := Lib.hid (run_load_en hk3 he32)
  have HB4 := HB3
  have hp := hI.put e0 w3 HT3.out he32 (by rw [he0]; exact Nat.zero_le _) (by rw [he0]; show (List.replicate m (0 : UInt8)).length ≤ _; rw [List.length_replicate]; omega)
  have he1z := he0
  have hpo := put_ok (e := e0) (by rw [he1z]; exact hc)
  rw [hpo] at hp
  obtain ⟨s, hs⟩ : ∃ s, s = oct.tx (enE e0) := ⟨_, rfl⟩
  have hsz : (s.size : Int) ≤ (m : Int) + 4 := by have h := (ze_size 1 [] m (by decide)).1; rw [hs, oct.tx_size, he1z]; omega
  have sE : s.toList.isEmpty = false := by
    have h := (ze_size 1 [] m (by decide)).2
    rw [hs, tx_emp, he1z]
    cases hh : enE (zeE 1 [] m) with
    | nil => rw [hh] at h; simp at h
    | cons a l => rfl
  simp only at hp
  rw [← hs] at hp
  have HP := Lib.hid hp
  clear hI hT hb1 hx1 hw1 hz he0 hbd hw3 hb3 hp hpo hs he1z hc hk3
  go_enter Tryd.func6, Tryd.ntmps6
  go_upto_region 2 with fail
  refine wp_region_lit ?_
  refine step_move rfl rfl ?_
  refine step_move rfl rfl ?_
  refine step_exec rfl (exec_make rfl rfl rfl hmk) ?_
  refine step_exec rfl (exec_convert rfl rfl hcv) ?_
  refine step_build (ps := #[(0, .int .i64 1), (2, .string z)]) rfl rfl (by first | rfl | kernel_rfl | simp [Act.put, Act.eval]) (HBD.out _) ?_
  simp only [Act.put, List.setIfInBounds_toArray, List.set_cons_zero, List.set_cons_succ]
  go_wp2_with (first
    | (refine step_move (x := .tmp 77777) rfl rfl ?_)
    | ((with_reducible refine step_store_run (t := 25) (x := .tmp 6) (y := .tmp 19) (p := ?splim1bs) (v := ?svlim1bs) (w' := ?swlim1bs) ?sglim1bs ?solim1bs ?sxlim1bs ?sylim1bs ?srlim1bs ?shlim1bs); (case sglim1bs => rfl); (case solim1bs => rfl); (case sxlim1bs => rfl); (case sylim1bs => rfl); (case srlim1bs => exact HST.out))
    | ((with_reducible refine step_load (t := 25) (x := .tmp 6) (p := ?lplim1bl) (v := ?lvlim1bl) ?lglim1bl ?lolim1bl ?lxlim1bl ?lrlim1bl ?lhlim1bl); (case lglim1bl => rfl); (case lolim1bl => rfl); (case lxlim1bl => rfl); (case lrlim1bl => exact HLD.out))
    | (go_at_call 8; (with_reducible refine HP.out.mono ?_); rintro x w5 ⟨rfl, hb5⟩; have HB5 := Lib.hid (HB4.out.trans (hb5.mono HB4.out.size)); have HT5 := Lib.hid (HI.out.next HTW.out HB5.out))
    | (go_at_call 7; refine (awake_any HI.out _ HT5.out).mono ?_; rintro x w9 ⟨rfl, hb9⟩))
  all_goals go_ret
  all_goals first
    | exact ⟨rfl, HB5.out.trans (hb9.mono HB5.out.size)⟩
    | exact ⟨by simp; omega, HB5.out.trans (hb9.mono HB5.out.size)⟩
    | exact absurd rfl HFN.out

set_option maxHeartbeats 8000000 in
set_option maxRecDepth 100000 in
theorem lim1c {T : World → Prop} (hI : EnIs T) (k n : Int) (w : World) (hT : T w) (hn0 : 0 ≤ n) (hn1 : n ≤ 65535) (m : Nat) (hm : n.tmod 2000 = (m : Int)) (hm2 : m < 2000) (hk : k = 1) (h2 : 256 < m) :
    Calls Tryd.prog 6 #[.int .i64 k, .int .u16 n] w fun x w' => x = .returned (.bool true) ∧ Below w.heap.size w w' := by
  have HI := Lib.hid hI
  have HTW := Lib.hid hT
  have m0 : (0 : Int) ≤ (m : Int) := Int.natCast_nonneg _
  have m1 : (m : Int) < 2000 := by omega
  have hme : n % 2000 = (m : Int) := by rw [← Int.tmod_eq_emod_of_nonneg hn0]; exact hm
  obtain ⟨w1, hw1⟩ : ∃ u, u = w.alloc (.cells (bv (List.replicate m 0)).toArray 5) := ⟨_, rfl⟩
  have hb1 : Below w.heap.size w w1 := by rw [hw1]; exact (Below.refl _ _).alloc (Nat.le_refl _) _
  have hmk := run_make_m m (by omega) w
  have hx1 : Blk w1 w.heap.size 5 (bv (List.replicate m 0)).toArray := by rw [hw1]; exact Blk.new w _ _
  rw [← hw1] at hmk
  have hcv := str_zeros hx1
  obtain ⟨z, hz⟩ : ∃ z, z = oct.tx (List.replicate m 0) := ⟨_, rfl⟩
  rw [← hz] at hcv
  obtain ⟨e0, he0⟩ : ∃ e, e = zeE k [] m := ⟨_, rfl⟩
  have hbd : ∀ u : World, (Instr.build 25 #[(0, .int .i64 k), (2, .string z)]).run Tryd.prog u = .ok (env e0) u := fun u => by
    have := run_build_kb u k z
    rw [hz, oct.tx_list, ← hz] at this
    rw [he0]; exact this
  have he32 : e0.commit.length = 32 := by rw [he0]; exact zlen
  have HST := Lib.hid (run_hold w1 e0 he32)
  obtain ⟨w3, hw3⟩ : ∃ u, u = heldW w1 e0 := ⟨_, rfl⟩
  have hk3 := held_blk w1 e0
  have hb3 := held_below w1 e0
  rw [← hw3] at HST hk3 hb3
  have HB3 := Lib.hid (hb1.trans (hb3.mono hb1.size))
  have HT3 := Lib.hid (hI.next hT HB3.out)
  have HBD := Lib.hid hbd
  subst hk
  have hc : checkE (zeE 1 [] m) ≠ 0 := by rw [check_b 1 m (by decide), if_neg (by omega), if_pos (by rw [show mostE 1 = 256 from rfl]; omega)]; decide
  have i1 : (1 : Int) ≤ (m : Int) := by omega
  have i2 : (256 : Int) < (m : Int) := by omega
  clear h2
  have HLD := Lib.hid (run_load_en hk3 he32)
  have HB4 := HB3
  have hp := hI.put e0 w3 HT3.out he32 (by rw [he0]; exact Nat.zero_le _) (by rw [he0]; show (List.replicate m (0 : UInt8)).length ≤ _; rw [List.length_replicate]; omega)
  have he1z := he0
  have hpo := put_no (e := e0) (by rw [he1z]; exact hc)
  rw [hpo] at hp
  obtain ⟨s, hs⟩ : ∃ s, s = oct.tx [] := ⟨_, rfl⟩
  have sE : s.toList.isEmpty = true := by rw [hs, tx_emp]; rfl
  obtain ⟨f, hf⟩ : ∃ f, f = checkE e0 := ⟨_, rfl⟩
  have hfn : (f == 0) = false := beq_eq_false_iff_ne.2 (by rw [hf, he1z]; exact hc)
  have HFN : Hid (f ≠ 0) := Lib.hid (by rw [hf, he1z]; exact hc)
  simp only at hp
  rw [← hs, ← hf] at hp
  have HP := Lib.hid hp
  clear hI hT hb1 hx1 hw1 hz he0 hbd hw3 hb3 hp hpo hs he1z hc hk3 hf
  go_enter Tryd.func6, Tryd.ntmps6
  go_upto_region 2 with fail
  refine wp_region_lit ?_
  refine step_move rfl rfl ?_
  refine step_move rfl rfl ?_
  refine step_exec rfl (exec_make rfl rfl rfl hmk) ?_
  refine step_exec rfl (exec_convert rfl rfl hcv) ?_
  refine step_build (ps := #[(0, .int .i64 1), (2, .string z)]) rfl rfl (by first | rfl | kernel_rfl | simp [Act.put, Act.eval]) (HBD.out _) ?_
  simp only [Act.put, List.setIfInBounds_toArray, List.set_cons_zero, List.set_cons_succ]
  go_wp2_with (first
    | (refine step_move (x := .tmp 77777) rfl rfl ?_)
    | ((with_reducible refine step_store_run (t := 25) (x := .tmp 6) (y := .tmp 19) (p := ?splim1cs) (v := ?svlim1cs) (w' := ?swlim1cs) ?sglim1cs ?solim1cs ?sxlim1cs ?sylim1cs ?srlim1cs ?shlim1cs); (case sglim1cs => rfl); (case solim1cs => rfl); (case sxlim1cs => rfl); (case sylim1cs => rfl); (case srlim1cs => exact HST.out))
    | ((with_reducible refine step_load (t := 25) (x := .tmp 6) (p := ?lplim1cl) (v := ?lvlim1cl) ?lglim1cl ?lolim1cl ?lxlim1cl ?lrlim1cl ?lhlim1cl); (case lglim1cl => rfl); (case lolim1cl => rfl); (case lxlim1cl => rfl); (case lrlim1cl => exact HLD.out))
    | (go_at_call 8; (with_reducible refine HP.out.mono ?_); rintro x w5 ⟨rfl, hb5⟩; have HB5 := Lib.hid (HB4.out.trans (hb5.mono HB4.out.size)); have HT5 := Lib.hid (HI.out.next HTW.out HB5.out))
    | (go_at_call 7; refine (awake_any HI.out _ HT5.out).mono ?_; rintro x w9 ⟨rfl, hb9⟩))
  all_goals go_ret
  all_goals first
    | exact ⟨rfl, HB5.out.trans (hb9.mono HB5.out.size)⟩
    | exact ⟨by simp; omega, HB5.out.trans (hb9.mono HB5.out.size)⟩
    | exact absurd rfl HFN.out

set_option maxHeartbeats 8000000 in
set_option maxRecDepth 100000 in
theorem lim2a {T : World → Prop} (hI : EnIs T) (k n : Int) (w : World) (hT : T w) (hn0 : 0 ≤ n) (hn1 : n ≤ 65535) (m : Nat) (hm : n.tmod 2000 = (m : Int)) (hm2 : m < 2000) (hk : k = 2) (hz0 : m = 0) :
    Calls Tryd.prog 6 #[.int .i64 k, .int .u16 n] w fun x w' => x = .returned (.bool true) ∧ Below w.heap.size w w' := by
  have HI := Lib.hid hI
  have HTW := Lib.hid hT
  have m0 : (0 : Int) ≤ (m : Int) := Int.natCast_nonneg _
  have m1 : (m : Int) < 2000 := by omega
  have hme : n % 2000 = (m : Int) := by rw [← Int.tmod_eq_emod_of_nonneg hn0]; exact hm
  obtain ⟨w1, hw1⟩ : ∃ u, u = w.alloc (.cells (bv (List.replicate m 0)).toArray 5) := ⟨_, rfl⟩
  have hb1 : Below w.heap.size w w1 := by rw [hw1]; exact (Below.refl _ _).alloc (Nat.le_refl _) _
  have hmk := run_make_m m (by omega) w
  have hx1 : Blk w1 w.heap.size 5 (bv (List.replicate m 0)).toArray := by rw [hw1]; exact Blk.new w _ _
  rw [← hw1] at hmk
  have hcv := str_zeros hx1
  obtain ⟨z, hz⟩ : ∃ z, z = oct.tx (List.replicate m 0) := ⟨_, rfl⟩
  rw [← hz] at hcv
  obtain ⟨e0, he0⟩ : ∃ e, e = zeE k [] m := ⟨_, rfl⟩
  have hbd : ∀ u : World, (Instr.build 25 #[(0, .int .i64 k), (2, .string z)]).run Tryd.prog u = .ok (env e0) u := fun u => by
    have := run_build_kb u k z
    rw [hz, oct.tx_list, ← hz] at this
    rw [he0]; exact this
  have he32 : e0.commit.length = 32 := by rw [he0]; exact zlen
  have HST := Lib.hid (run_hold w1 e0 he32)
  obtain ⟨w3, hw3⟩ : ∃ u, u = heldW w1 e0 := ⟨_, rfl⟩
  have hk3 := held_blk w1 e0
  have hb3 := held_below w1 e0
  rw [← hw3] at HST hk3 hb3
  have HB3 := Lib.hid (hb1.trans (hb3.mono hb1.size))
  have HT3 := Lib.hid (hI.next hT HB3.out)
  have HBD := Lib.hid hbd
  subst hk
  have hc : checkE (zeE 2 [] m) ≠ 0 := by rw [check_b 2 m (by decide), if_pos hz0]; decide
  have i1 : (m : Int) < 1 := by omega
  clear hz0
  have HLD := Lib.hid (run_load_en hk3 he32)
  have HB4 := HB3
  have hp := hI.put e0 w3 HT3.out he32 (by rw [he0]; exact Nat.zero_le _) (by rw [he0]; show (List.replicate m (0 : UInt8)).length ≤ _; rw [List.length_replicate]; omega)
  have he1z := he0
  have hpo := put_no (e := e0) (by rw [he1z]; exact hc)
  rw [hpo] at hp
  obtain ⟨s, hs⟩ : ∃ s, s = oct.tx [] := ⟨_, rfl⟩
  have sE : s.toList.isEmpty = true := by rw [hs, tx_emp]; rfl
  obtain ⟨f, hf⟩ : ∃ f, f = checkE e0 := ⟨_, rfl⟩
  have hfn : (f == 0) = false := beq_eq_false_iff_ne.2 (by rw [hf, he1z]; exact hc)
  have HFN : Hid (f ≠ 0) := Lib.hid (by rw [hf, he1z]; exact hc)
  simp only at hp
  rw [← hs, ← hf] at hp
  have HP := Lib.hid hp
  clear hI hT hb1 hx1 hw1 hz he0 hbd hw3 hb3 hp hpo hs he1z hc hk3 hf
  go_enter Tryd.func6, Tryd.ntmps6
  go_upto_region 2 with fail
  refine wp_region_lit ?_
  refine step_move rfl rfl ?_
  refine step_move rfl rfl ?_
  refine step_exec rfl (exec_make rfl rfl rfl hmk) ?_
  refine step_exec rfl (exec_convert rfl rfl hcv) ?_
  refine step_build (ps := #[(0, .int .i64 2), (2, .string z)]) rfl rfl (by first | rfl | kernel_rfl | simp [Act.put, Act.eval]) (HBD.out _) ?_
  simp only [Act.put, List.setIfInBounds_toArray, List.set_cons_zero, List.set_cons_succ]
  go_wp2_with (first
    | (refine step_move (x := .tmp 77777) rfl rfl ?_)
    | ((with_reducible refine step_store_run (t := 25) (x := .tmp 6) (y := .tmp 19) (p := ?splim2as) (v := ?svlim2as) (w' := ?swlim2as) ?sglim2as ?solim2as ?sxlim2as ?sylim2as ?srlim2as ?shlim2as); (case sglim2as => rfl); (case solim2as => rfl); (case sxlim2as => rfl); (case sylim2as => rfl); (case srlim2as => exact HST.out))
    | ((with_reducible refine step_load (t := 25) (x := .tmp 6) (p := ?lplim2al) (v := ?lvlim2al) ?lglim2al ?lolim2al ?lxlim2al ?lrlim2al ?lhlim2al); (case lglim2al => rfl); (case lolim2al => rfl); (case lxlim2al => rfl); (case lrlim2al => exact HLD.out))
    | (go_at_call 8; (with_reducible refine HP.out.mono ?_); rintro x w5 ⟨rfl, hb5⟩; have HB5 := Lib.hid (HB4.out.trans (hb5.mono HB4.out.size)); have HT5 := Lib.hid (HI.out.next HTW.out HB5.out))
    | (go_at_call 7; refine (awake_any HI.out _ HT5.out).mono ?_; rintro x w9 ⟨rfl, hb9⟩))
  all_goals go_ret
  all_goals first
    | exact ⟨rfl, HB5.out.trans (hb9.mono HB5.out.size)⟩
    | exact ⟨by simp; omega, HB5.out.trans (hb9.mono HB5.out.size)⟩
    | exact absurd rfl HFN.out

set_option maxHeartbeats 8000000 in
set_option maxRecDepth 100000 in
theorem lim2b {T : World → Prop} (hI : EnIs T) (k n : Int) (w : World) (hT : T w) (hn0 : 0 ≤ n) (hn1 : n ≤ 65535) (m : Nat) (hm : n.tmod 2000 = (m : Int)) (hm2 : m < 2000) (hk : k = 2) (h1 : 1 ≤ m) (h2 : m ≤ 256) :
    Calls Tryd.prog 6 #[.int .i64 k, .int .u16 n] w fun x w' => x = .returned (.bool true) ∧ Below w.heap.size w w' := by
  have HI := Lib.hid hI
  have HTW := Lib.hid hT
  have m0 : (0 : Int) ≤ (m : Int) := Int.natCast_nonneg _
  have m1 : (m : Int) < 2000 := by omega
  have hme : n % 2000 = (m : Int) := by rw [← Int.tmod_eq_emod_of_nonneg hn0]; exact hm
  obtain ⟨w1, hw1⟩ : ∃ u, u = w.alloc (.cells (bv (List.replicate m 0)).toArray 5) := ⟨_, rfl⟩
  have hb1 : Below w.heap.size w w1 := by rw [hw1]; exact (Below.refl _ _).alloc (Nat.le_refl _) _
  have hmk := run_make_m m (by omega) w
  have hx1 : Blk w1 w.heap.size 5 (bv (List.replicate m 0)).toArray := by rw [hw1]; exact Blk.new w _ _
  rw [← hw1] at hmk
  have hcv := str_zeros hx1
  obtain ⟨z, hz⟩ : ∃ z, z = oct.tx (List.replicate m 0) := ⟨_, rfl⟩
  rw [← hz] at hcv
  obtain ⟨e0, he0⟩ : ∃ e, e = zeE k [] m := ⟨_, rfl⟩
  have hbd : ∀ u : World, (Instr.build 25 #[(0, .int .i64 k), (2, .string z)]).run Tryd.prog u = .ok (env e0) u := fun u => by
    have := run_build_kb u k z
    rw [hz, oct.tx_list, ← hz] at this
    rw [he0]; exact this
  have he32 : e0.commit.length = 32 := by rw [he0]; exact zlen
  have HST := Lib.hid (run_hold w1 e0 he32)
  obtain ⟨w3, hw3⟩ : ∃ u, u = heldW w1 e0 := ⟨_, rfl⟩
  have hk3 := held_blk w1 e0
  have hb3 := held_below w1 e0
  rw [← hw3] at HST hk3 hb3
  have HB3 := Lib.hid (hb1.trans (hb3.mono hb1.size))
  have HT3 := Lib.hid (hI.next hT HB3.out)
  have HBD := Lib.hid hbd
  subst hk
  have hc : checkE (zeE 2 [] m) = 0 := by rw [check_b 2 m (by decide), if_neg (by omega), if_neg (by rw [show mostE 2 = 256 from rfl]; omega)]
  have i1 : (1 : Int) ≤ (m : Int) := by omega
  have i2 : (m : Int) ≤ 256 := by omega
  clear h1 h2
  have HLD := Lib.hid (run_load_en hk3 he32)
  have HB4 := HB3
  have hp := hI.put e0 w3 HT3.out he32 (by rw [he0]; exact Nat.zero_le _) (by rw [he0]; show (List.replicate m (0 : UInt8)).length ≤ _; rw [List.length_replicate]; omega)
  have he1z := he0
  have hpo := put_ok (e := e0) (by rw [he1z]; exact hc)
  rw [hpo] at hp
  obtain ⟨s, hs⟩ : ∃ s, s = oct.tx (enE e0) := ⟨_, rfl⟩
  have hsz : (s.size : Int) ≤ (m : Int) + 4 := by have h := (ze_size 2 [] m (by decide)).1; rw [hs, oct.tx_size, he1z]; omega
  have sE : s.toList.isEmpty = false := by
    have h := (ze_size 2 [] m (by decide)).2
    rw [hs, tx_emp, he1z]
    cases hh : enE (zeE 2 [] m) with
    | nil => rw [hh] at h; simp at h
    | cons a l => rfl
  simp only at hp
  rw [← hs] at hp
  have HP := Lib.hid hp
  clear hI hT hb1 hx1 hw1 hz he0 hbd hw3 hb3 hp hpo hs he1z hc hk3
  go_enter Tryd.func6, Tryd.ntmps6
  go_upto_region 2 with fail
  refine wp_region_lit ?_
  refine step_move rfl rfl ?_
  refine step_move rfl rfl ?_
  refine step_exec rfl (exec_make rfl rfl rfl hmk) ?_
  refine step_exec rfl (exec_convert rfl rfl hcv) ?_
  refine step_build (ps := #[(0, .int .i64 2), (2, .string z)]) rfl rfl (by first | rfl | kernel_rfl | simp [Act.put, Act.eval]) (HBD.out _) ?_
  simp only [Act.put, List.setIfInBounds_toArray, List.set_cons_zero, List.set_cons_succ]
  go_wp2_with (first
    | (refine step_move (x := .tmp 77777) rfl rfl ?_)
    | ((with_reducible refine step_store_run (t := 25) (x := .tmp 6) (y := .tmp 19) (p := ?splim2bs) (v := ?svlim2bs) (w' := ?swlim2bs) ?sglim2bs ?solim2bs ?sxlim2bs ?sylim2bs ?srlim2bs ?shlim2bs); (case sglim2bs => rfl); (case solim2bs => rfl); (case sxlim2bs => rfl); (case sylim2bs => rfl); (case srlim2bs => exact HST.out))
    | ((with_reducible refine step_load (t := 25) (x := .tmp 6) (p := ?lplim2bl) (v := ?lvlim2bl) ?lglim2bl ?lolim2bl ?lxlim2bl ?lrlim2bl ?lhlim2bl); (case lglim2bl => rfl); (case lolim2bl => rfl); (case lxlim2bl => rfl); (case lrlim2bl => exact HLD.out))
    | (go_at_call 8; (with_reducible refine HP.out.mono ?_); rintro x w5 ⟨rfl, hb5⟩; have HB5 := Lib.hid (HB4.out.trans (hb5.mono HB4.out.size)); have HT5 := Lib.hid (HI.out.next HTW.out HB5.out))
    | (go_at_call 7; refine (awake_any HI.out _ HT5.out).mono ?_; rintro x w9 ⟨rfl, hb9⟩))
  all_goals go_ret
  all_goals first
    | exact ⟨rfl, HB5.out.trans (hb9.mono HB5.out.size)⟩
    | exact ⟨by simp; omega, HB5.out.trans (hb9.mono HB5.out.size)⟩
    | exact absurd rfl HFN.out

set_option maxHeartbeats 8000000 in
set_option maxRecDepth 100000 in
theorem lim2c {T : World → Prop} (hI : EnIs T) (k n : Int) (w : World) (hT : T w) (hn0 : 0 ≤ n) (hn1 : n ≤ 65535) (m : Nat) (hm : n.tmod 2000 = (m : Int)) (hm2 : m < 2000) (hk : k = 2) (h2 : 256 < m) :
    Calls Tryd.prog 6 #[.int .i64 k, .int .u16 n] w fun x w' => x = .returned (.bool true) ∧ Below w.heap.size w w' := by
  have HI := Lib.hid hI
  have HTW := Lib.hid hT
  have m0 : (0 : Int) ≤ (m : Int) := Int.natCast_nonneg _
  have m1 : (m : Int) < 2000 := by omega
  have hme : n % 2000 = (m : Int) := by rw [← Int.tmod_eq_emod_of_nonneg hn0]; exact hm
  obtain ⟨w1, hw1⟩ : ∃ u, u = w.alloc (.cells (bv (List.replicate m 0)).toArray 5) := ⟨_, rfl⟩
  have hb1 : Below w.heap.size w w1 := by rw [hw1]; exact (Below.refl _ _).alloc (Nat.le_refl _) _
  have hmk := run_make_m m (by omega) w
  have hx1 : Blk w1 w.heap.size 5 (bv (List.replicate m 0)).toArray := by rw [hw1]; exact Blk.new w _ _
  rw [← hw1] at hmk
  have hcv := str_zeros hx1
  obtain ⟨z, hz⟩ : ∃ z, z = oct.tx (List.replicate m 0) := ⟨_, rfl⟩
  rw [← hz] at hcv
  obtain ⟨e0, he0⟩ : ∃ e, e = zeE k [] m := ⟨_, rfl⟩
  have hbd : ∀ u : World, (Instr.build 25 #[(0, .int .i64 k), (2, .string z)]).run Tryd.prog u = .ok (env e0) u := fun u => by
    have := run_build_kb u k z
    rw [hz, oct.tx_list, ← hz] at this
    rw [he0]; exact this
  have he32 : e0.commit.length = 32 := by rw [he0]; exact zlen
  have HST := Lib.hid (run_hold w1 e0 he32)
  obtain ⟨w3, hw3⟩ : ∃ u, u = heldW w1 e0 := ⟨_, rfl⟩
  have hk3 := held_blk w1 e0
  have hb3 := held_below w1 e0
  rw [← hw3] at HST hk3 hb3
  have HB3 := Lib.hid (hb1.trans (hb3.mono hb1.size))
  have HT3 := Lib.hid (hI.next hT HB3.out)
  have HBD := Lib.hid hbd
  subst hk
  have hc : checkE (zeE 2 [] m) ≠ 0 := by rw [check_b 2 m (by decide), if_neg (by omega), if_pos (by rw [show mostE 2 = 256 from rfl]; omega)]; decide
  have i1 : (1 : Int) ≤ (m : Int) := by omega
  have i2 : (256 : Int) < (m : Int) := by omega
  clear h2
  have HLD := Lib.hid (run_load_en hk3 he32)
  have HB4 := HB3
  have hp := hI.put e0 w3 HT3.out he32 (by rw [he0]; exact Nat.zero_le _) (by rw [he0]; show (List.replicate m (0 : UInt8)).length ≤ _; rw [List.length_replicate]; omega)
  have he1z := he0
  have hpo := put_no (e := e0) (by rw [he1z]; exact hc)
  rw [hpo] at hp
  obtain ⟨s, hs⟩ : ∃ s, s = oct.tx [] := ⟨_, rfl⟩
  have sE : s.toList.isEmpty = true := by rw [hs, tx_emp]; rfl
  obtain ⟨f, hf⟩ : ∃ f, f = checkE e0 := ⟨_, rfl⟩
  have hfn : (f == 0) = false := beq_eq_false_iff_ne.2 (by rw [hf, he1z]; exact hc)
  have HFN : Hid (f ≠ 0) := Lib.hid (by rw [hf, he1z]; exact hc)
  simp only at hp
  rw [← hs, ← hf] at hp
  have HP := Lib.hid hp
  clear hI hT hb1 hx1 hw1 hz he0 hbd hw3 hb3 hp hpo hs he1z hc hk3 hf
  go_enter Tryd.func6, Tryd.ntmps6
  go_upto_region 2 with fail
  refine wp_region_lit ?_
  refine step_move rfl rfl ?_
  refine step_move rfl rfl ?_
  refine step_exec rfl (exec_make rfl rfl rfl hmk) ?_
  refine step_exec rfl (exec_convert rfl rfl hcv) ?_
  refine step_build (ps := #[(0, .int .i64 2), (2, .string z)]) rfl rfl (by first | rfl | kernel_rfl | simp [Act.put, Act.eval]) (HBD.out _) ?_
  simp only [Act.put, List.setIfInBounds_toArray, List.set_cons_zero, List.set_cons_succ]
  go_wp2_with (first
    | (refine step_move (x := .tmp 77777) rfl rfl ?_)
    | ((with_reducible refine step_store_run (t := 25) (x := .tmp 6) (y := .tmp 19) (p := ?splim2cs) (v := ?svlim2cs) (w' := ?swlim2cs) ?sglim2cs ?solim2cs ?sxlim2cs ?sylim2cs ?srlim2cs ?shlim2cs); (case sglim2cs => rfl); (case solim2cs => rfl); (case sxlim2cs => rfl); (case sylim2cs => rfl); (case srlim2cs => exact HST.out))
    | ((with_reducible refine step_load (t := 25) (x := .tmp 6) (p := ?lplim2cl) (v := ?lvlim2cl) ?lglim2cl ?lolim2cl ?lxlim2cl ?lrlim2cl ?lhlim2cl); (case lglim2cl => rfl); (case lolim2cl => rfl); (case lxlim2cl => rfl); (case lrlim2cl => exact HLD.out))
    | (go_at_call 8; (with_reducible refine HP.out.mono ?_); rintro x w5 ⟨rfl, hb5⟩; have HB5 := Lib.hid (HB4.out.trans (hb5.mono HB4.out.size)); have HT5 := Lib.hid (HI.out.next HTW.out HB5.out))
    | (go_at_call 7; refine (awake_any HI.out _ HT5.out).mono ?_; rintro x w9 ⟨rfl, hb9⟩))
  all_goals go_ret
  all_goals first
    | exact ⟨rfl, HB5.out.trans (hb9.mono HB5.out.size)⟩
    | exact ⟨by simp; omega, HB5.out.trans (hb9.mono HB5.out.size)⟩
    | exact absurd rfl HFN.out
end Go.Proofs.YtbhkegdohiekfaaDoor.ent
