/-
  The walk of EntryLimits, the other kinds, by what entry's functions answer.
-/
import Derived.Test.YtbhkegdohiekfaaDoorEnwl
namespace Go.Proofs.YtbhkegdohiekfaaDoor.ent
open Go.RowKit Go.Proofs.YtbhkegdohiekfaaDoor.mem Go.Proofs.YtbhkegdohiekfaaDoor.sha Go.Proofs.YtbhkegdohiekfaaDoor.ids Go.Proofs.YtbhkegdohiekfaaDoor.rows
open Go.Proofs.YtbhkegdohiekfaaDoor.opn (b1 b2 b4 num txt idl byte rd rdN rdT rdI rdS rdL St Reads Stays endE zid mkId)
open Go.Proofs.YtbhkegdohiekfaaDoor.kit (Strs)

set_option maxHeartbeats 8000000 in
set_option maxRecDepth 100000 in
theorem lim3a {T : World → Prop} (hI : EnIs T) (k n : Int) (w : World) (hT : T w) (hn0 : 0 ≤ n) (hn1 : n ≤ 65535) (m : Nat) (hm : n.tmod 2000 = (m : Int)) (hm2 : m < 2000) (hk : k = 3) (hz0 : m = 0) :
    Calls Tryd.prog 6 #[.int .i64 k, .int .u16 n] w fun x w' => x = .returned (.bool true) ∧ Below w.heap.size w w' := by
  have HI := Lib.hid hI
  have HTW := Lib.hid hT
  have m0 : (0 : Int) ≤ (m : Int) := Int.natCast_nonneg _
  have m1 : (m : Int) < 2000 := by omega
  have hme : n % 2000 = (m : Int) := by rw [← Int.tmod_eq_emod_of_nonneg hn0]; exact hm
  obtain ⟨w1, hw1⟩ : ∃ u, u = w.alloc (.cells (bv (List.replicate m 0)).toArray 5) := ⟨_, rfl⟩
  have hb1 : Below w.heap.size w w1 := by rw [hw1]; exact (Below.refl _ _).alloc (Nat.le_refl _) _
  have hmk := run_make_m m (by omega) w
  have hx1 : Blk w1 w.heap.size 5 (bv (List.replicate m 0)).toArray := by rw [hw1]; exact Blk.new w _ _
  rw [← hw1] at hmk
  have hcv := str_zeros hx1
  obtain ⟨z, hz⟩ : ∃ z, z = oct.tx (List.replicate m 0) := ⟨_, rfl⟩
  rw [← hz] at hcv
  obtain ⟨e0, he0⟩ : ∃ e, e = zeE k [] m := ⟨_, rfl⟩
  have hbd : ∀ u : World, (Instr.build 25 #[(0, .int .i64 k), (2, .string z)]).run Tryd.prog u = .ok (env e0) u := fun u => by
    have := run_build_kb u k z
    rw [hz, oct.tx_list, ← hz] at this
    rw [he0]; exact this
  have he32 : e0.commit.length = 32 := by rw [he0]; exact zlen
  have HST := Lib.hid (run_hold w1 e0 he32)
  obtain ⟨w3, hw3⟩ : ∃ u, u = heldW w1 e0 := ⟨_, rfl⟩
  have hk3 := held_blk w1 e0
  have hb3 := held_below w1 e0
  rw [← hw3] at HST hk3 hb3
  have HB3 := Lib.hid (hb1.trans (hb3.mono hb1.size))
  have HT3 := Lib.hid (hI.next hT HB3.out)
  have HBD := Lib.hid hbd
  subst hk
  have hc : checkE (zeE 3 [] m) ≠ 0 := by rw [check_b 3 m (by decide), if_pos hz0]; decide
  have i1 : (m : Int) < 1 := by omega
  clear hz0
  have HLD := Lib.hid (run_load_en hk3 he32)
  have HB4 := HB3
  have hp := hI.put e0 w3 HT3.out he32 (by rw [he0]; exact Nat.zero_le _) (by rw [he0]; show (List.replicate m (0 : UInt8)).length ≤ _; rw [List.length_replicate]; omega)
  have he1z := he0
  have hpo := put_no (e := e0) (by rw [he1z]; exact hc)
  rw [hpo] at hp
  obtain ⟨s, hs⟩ : ∃ s, s = oct.tx [] := ⟨_, rfl⟩
  have sE : s.toList.isEmpty = true := by rw [hs, tx_emp]; rfl
  obtain ⟨f, hf⟩ : ∃ f, f = checkE e0 := ⟨_, rfl⟩
  have hfn : (f == 0) = false := beq_eq_false_iff_ne.2 (by rw [hf, he1z]; exact hc)
  have HFN : Hid (f ≠ 0) := Lib.hid (by rw [hf, he1z]; exact hc)
  simp only at hp
  rw [← hs, ← hf] at hp
  have HP := Lib.hid hp
  clear hI hT hb1 hx1 hw1 hz he0 hbd hw3 hb3 hp hpo hs he1z hc hk3 hf
  go_enter Tryd.func6, Tryd.ntmps6
  go_upto_region 2 with fail
  refine wp_region_lit ?_
  refine step_move rfl rfl ?_
  refine step_move rfl rfl ?_
  refine step_exec rfl (exec_make rfl rfl rfl hmk) ?_
  refine step_exec rfl (exec_convert rfl rfl hcv) ?_
  refine step_build (ps := #[(0, .int .i64 3), (2, .string z)]) rfl rfl (by first | rfl | kernel_rfl | simp [Act.put, Act.eval]) (HBD.out _) ?_
  simp only [Act.put, List.setIfInBounds_toArray, List.set_cons_zero, List.set_cons_succ]
  go_wp2_with (first
    | (refine step_move (x := .tmp 77777) rfl rfl ?_)
    | ((with_reducible refine step_store_run (t := 25) (x := .tmp 6) (y := .tmp 19) (p := ?splim3as) (v := ?svlim3as) (w' := ?swlim3as) ?sglim3as ?solim3as ?sxlim3as ?sylim3as ?srlim3as ?shlim3as); (case sglim3as => rfl); (case solim3as => rfl); (case sxlim3as => rfl); (case sylim3as => rfl); (case srlim3as => exact HST.out))
    | ((with_reducible refine step_load (t := 25) (x := .tmp 6) (p := ?lplim3al) (v := ?lvlim3al) ?lglim3al ?lolim3al ?lxlim3al ?lrlim3al ?lhlim3al); (case lglim3al => rfl); (case lolim3al => rfl); (case lxlim3al => rfl); (case lrlim3al => exact HLD.out))
    | (go_at_call 8; (with_reducible refine HP.out.mono ?_); rintro x w5 ⟨rfl, hb5⟩; have HB5 := Lib.hid (HB4.out.trans (hb5.mono HB4.out.size)); have HT5 := Lib.hid (HI.out.next HTW.out HB5.out))
    | (go_at_call 7; refine (awake_any HI.out _ HT5.out).mono ?_; rintro x w9 ⟨rfl, hb9⟩))
  all_goals go_ret
  all_goals first
    | exact ⟨rfl, HB5.out.trans (hb9.mono HB5.out.size)⟩
    | exact ⟨by simp; omega, HB5.out.trans (hb9.mono HB5.out.size)⟩
    | exact absurd rfl HFN.out

set_option maxHeartbeats 8000000 in
set_option maxRecDepth 100000 in
theorem lim3b {T : World → Prop} (hI : EnIs T) (k n : Int) (w : World) (hT : T w) (hn0 : 0 ≤ n) (hn1 : n ≤ 65535) (m : Nat) (hm : n.tmod 2000 = (m : Int)) (hm2 : m < 2000) (hk : k = 3) (h1 : 1 ≤ m) (h2 : m ≤ 512) :
    Calls Tryd.prog 6 #[.int .i64 k, .int .u16 n] w fun x w' => x = .returned (.bool true) ∧ Below w.heap.size w w' := by
  have HI := Lib.hid hI
  have HTW := Lib.hid hT
  have m0 : (0 : Int) ≤ (m : Int) := Int.natCast_nonneg _
  have m1 : (m : Int) < 2000 := by omega
  have hme : n % 2000 = (m : Int) := by rw [← Int.tmod_eq_emod_of_nonneg hn0]; exact hm
  obtain ⟨w1, hw1⟩ : ∃ u, u = w.alloc (.cells (bv (List.replicate m 0)).toArray 5) := ⟨_, rfl⟩
  have hb1 : Below w.heap.size w w1 := by rw [hw1]; exact (Below.refl _ _).alloc (Nat.le_refl _) _
  have hmk := run_make_m m (by omega) w
  have hx1 : Blk w1 w.heap.size 5 (bv (List.replicate m 0)).toArray := by rw [hw1]; exact Blk.new w _ _
  rw [← hw1] at hmk
  have hcv := str_zeros hx1
  obtain ⟨z, hz⟩ : ∃ z, z = oct.tx (List.replicate m 0) := ⟨_, rfl⟩
  rw [← hz] at hcv
  obtain ⟨e0, he0⟩ : ∃ e, e = zeE k [] m := ⟨_, rfl⟩
  have hbd : ∀ u : World, (Instr.build 25 #[(0, .int .i64 k), (2, .string z)]).run Tryd.prog u = .ok (env e0) u := fun u => by
    have := run_build_kb u k z
    rw [hz, oct.tx_list, ← hz] at this
    rw [he0]; exact this
  have he32 : e0.commit.length = 32 := by rw [he0]; exact zlen
  have HST := Lib.hid (run_hold w1 e0 he32)
  obtain ⟨w3, hw3⟩ : ∃ u, u = heldW w1 e0 := ⟨_, rfl⟩
  have hk3 := held_blk w1 e0
  have hb3 := held_below w1 e0
  rw [← hw3] at HST hk3 hb3
  have HB3 := Lib.hid (hb1.trans (hb3.mono hb1.size))
  have HT3 := Lib.hid (hI.next hT HB3.out)
  have HBD := Lib.hid hbd
  subst hk
  have hc : checkE (zeE 3 [] m) = 0 := by rw [check_b 3 m (by decide), if_neg (by omega), if_neg (by rw [show mostE 3 = 512 from rfl]; omega)]
  have i1 : (1 : Int) ≤ (m : Int) := by omega
  have i2 : (m : Int) ≤ 512 := by omega
  clear h1 h2
  have HLD := Lib.hid (run_load_en hk3 he32)
  have HB4 := HB3
  have hp := hI.put e0 w3 HT3.out he32 (by rw [he0]; exact Nat.zero_le _) (by rw [he0]; show (List.replicate m (0 : UInt8)).length ≤ _; rw [List.length_replicate]; omega)
  have he1z := he0
  have hpo := put_ok (e := e0) (by rw [he1z]; exact hc)
  rw [hpo] at hp
  obtain ⟨s, hs⟩ : ∃ s, s = oct.tx (enE e0) := ⟨_, rfl⟩
  have hsz : (s.size : Int) ≤ (m : Int) + 4 := by have h := (ze_size 3 [] m (by decide)).1; rw [hs, oct.tx_size, he1z]; omega
  have sE : s.toList.isEmpty = false := by
    have h := (ze_size 3 [] m (by decide)).2
    rw [hs, tx_emp, he1z]
    cases hh : enE (zeE 3 [] m) with
    | nil => rw [hh] at h; simp at h
    | cons a l => rfl
  simp only at hp
  rw [← hs] at hp
  have HP := Lib.hid hp
  clear hI hT hb1 hx1 hw1 hz he0 hbd hw3 hb3 hp hpo hs he1z hc hk3
  go_enter Tryd.func6, Tryd.ntmps6
  go_upto_region 2 with fail
  refine wp_region_lit ?_
  refine step_move rfl rfl ?_
  refine step_move rfl rfl ?_
  refine step_exec rfl (exec_make rfl rfl rfl hmk) ?_
  refine step_exec rfl (exec_convert rfl rfl hcv) ?_
  refine step_build (ps := #[(0, .int .i64 3), (2, .string z)]) rfl rfl (by first | rfl | kernel_rfl | simp [Act.put, Act.eval]) (HBD.out _) ?_
  simp only [Act.put, List.setIfInBounds_toArray, List.set_cons_zero, List.set_cons_succ]
  go_wp2_with (first
    | (refine step_move (x := .tmp 77777) rfl rfl ?_)
    | ((with_reducible refine step_store_run (t := 25) (x := .tmp 6) (y := .tmp 19) (p := ?splim3bs) (v := ?svlim3bs) (w' := ?swlim3bs) ?sglim3bs ?solim3bs ?sxlim3bs ?sylim3bs ?srlim3bs ?shlim3bs); (case sglim3bs => rfl); (case solim3bs => rfl); (case sxlim3bs => rfl); (case sylim3bs => rfl); (case srlim3bs => exact HST.out))
    | ((with_reducible refine step_load (t := 25) (x := .tmp 6) (p := ?lplim3bl) (v := ?lvlim3bl) ?lglim3bl ?lolim3bl ?lxlim3bl ?lrlim3bl ?lhlim3bl); (case lglim3bl => rfl); (case lolim3bl => rfl); (case lxlim3bl => rfl); (case lrlim3bl => exact HLD.out))
    | (go_at_call 8; (with_reducible refine HP.out.mono ?_); rintro x w5 ⟨rfl, hb5⟩; have HB5 := Lib.hid (HB4.out.trans (hb5.mono HB4.out.size)); have HT5 := Lib.hid (HI.out.next HTW.out HB5.out))
    | (go_at_call 7; refine (awake_any HI.out _ HT5.out).mono ?_; rintro x w9 ⟨rfl, hb9⟩))
  all_goals go_ret
  all_goals first
    | exact ⟨rfl, HB5.out.trans (hb9.mono HB5.out.size)⟩
    | exact ⟨by simp; omega, HB5.out.trans (hb9.mono HB5.out.size)⟩
    | exact absurd rfl HFN.out

set_option maxHeartbeats 8000000 in
set_option maxRecDepth 100000 in
theorem lim3c {T : World → Prop} (hI : EnIs T) (k n : Int) (w : World) (hT : T w) (hn0 : 0 ≤ n) (hn1 : n ≤ 65535) (m : Nat) (hm : n.tmod 2000 = (m : Int)) (hm2 : m < 2000) (hk : k = 3) (h2 : 512 < m) :
    Calls Tryd.prog 6 #[.int .i64 k, .int .u16 n] w fun x w' => x = .returned (.bool true) ∧ Below w.heap.size w w' := by
  have HI := Lib.hid hI
  have HTW := Lib.hid hT
  have m0 : (0 : Int) ≤ (m : Int) := Int.natCast_nonneg _
  have m1 : (m : Int) < 2000 := by omega
  have hme : n % 2000 = (m : Int) := by rw [← Int.tmod_eq_emod_of_nonneg hn0]; exact hm
  obtain ⟨w1, hw1⟩ : ∃ u, u = w.alloc (.cells (bv (List.replicate m 0)).toArray 5) := ⟨_, rfl⟩
  have hb1 : Below w.heap.size w w1 := by rw [hw1]; exact (Below.refl _ _).alloc (Nat.le_refl _) _
  have hmk := run_make_m m (by omega) w
  have hx1 : Blk w1 w.heap.size 5 (bv (List.replicate m 0)).toArray := by rw [hw1]; exact Blk.new w _ _
  rw [← hw1] at hmk
  have hcv := str_zeros hx1
  obtain ⟨z, hz⟩ : ∃ z, z = oct.tx (List.replicate m 0) := ⟨_, rfl⟩
  rw [← hz] at hcv
  obtain ⟨e0, he0⟩ : ∃ e, e = zeE k [] m := ⟨_, rfl⟩
  have hbd : ∀ u : World, (Instr.build 25 #[(0, .int .i64 k), (2, .string z)]).run Tryd.prog u = .ok (env e0) u := fun u => by
    have := run_build_kb u k z
    rw [hz, oct.tx_list, ← hz] at this
    rw [he0]; exact this
  have he32 : e0.commit.length = 32 := by rw [he0]; exact zlen
  have HST := Lib.hid (run_hold w1 e0 he32)
  obtain ⟨w3, hw3⟩ : ∃ u, u = heldW w1 e0 := ⟨_, rfl⟩
  have hk3 := held_blk w1 e0
  have hb3 := held_below w1 e0
  rw [← hw3] at HST hk3 hb3
  have HB3 := Lib.hid (hb1.trans (hb3.mono hb1.size))
  have HT3 := Lib.hid (hI.next hT HB3.out)
  have HBD := Lib.hid hbd
  subst hk
  have hc : checkE (zeE 3 [] m) ≠ 0 := by rw [check_b 3 m (by decide), if_neg (by omega), if_pos (by rw [show mostE 3 = 512 from rfl]; omega)]; decide
  have i1 : (1 : Int) ≤ (m : Int) := by omega
  have i2 : (512 : Int) < (m : Int) := by omega
  clear h2
  have HLD := Lib.hid (run_load_en hk3 he32)
  have HB4 := HB3
  have hp := hI.put e0 w3 HT3.out he32 (by rw [he0]; exact Nat.zero_le _) (by rw [he0]; show (List.replicate m (0 : UInt8)).length ≤ _; rw [List.length_replicate]; omega)
  have he1z := he0
  have hpo := put_no (e := e0) (by rw [he1z]; exact hc)
  rw [hpo] at hp
  obtain ⟨s, hs⟩ : ∃ s, s = oct.tx [] := ⟨_, rfl⟩
  have sE : s.toList.isEmpty = true := by rw [hs, tx_emp]; rfl
  obtain ⟨f, hf⟩ : ∃ f, f = checkE e0 := ⟨_, rfl⟩
  have hfn : (f == 0) = false := beq_eq_false_iff_ne.2 (by rw [hf, he1z]; exact hc)
  have HFN : Hid (f ≠ 0) := Lib.hid (by rw [hf, he1z]; exact hc)
  simp only at hp
  rw [← hs, ← hf] at hp
  have HP := Lib.hid hp
  clear hI hT hb1 hx1 hw1 hz he0 hbd hw3 hb3 hp hpo hs he1z hc hk3 hf
  go_enter Tryd.func6, Tryd.ntmps6
  go_upto_region 2 with fail
  refine wp_region_lit ?_
  refine step_move rfl rfl ?_
  refine step_move rfl rfl ?_
  refine step_exec rfl (exec_make rfl rfl rfl hmk) ?_
  refine step_exec rfl (exec_convert rfl rfl hcv) ?_
  refine step_build (ps := #[(0, .int .i64 3), (2, .string z)]) rfl rfl (by first | rfl | kernel_rfl | simp [Act.put, Act.eval]) (HBD.out _) ?_
  simp only [Act.put, List.setIfInBounds_toArray, List.set_cons_zero, List.set_cons_succ]
  go_wp2_with (first
    | (refine step_move (x := .tmp 77777) rfl rfl ?_)
    | ((with_reducible refine step_store_run (t := 25) (x := .tmp 6) (y := .tmp 19) (p := ?splim3cs) (v := ?svlim3cs) (w' := ?swlim3cs) ?sglim3cs ?solim3cs ?sxlim3cs ?sylim3cs ?srlim3cs ?shlim3cs); (case sglim3cs => rfl); (case solim3cs => rfl); (case sxlim3cs => rfl); (case sylim3cs => rfl); (case srlim3cs => exact HST.out))
    | ((with_reducible refine step_load (t := 25) (x := .tmp 6) (p := ?lplim3cl) (v := ?lvlim3cl) ?lglim3cl ?lolim3cl ?lxlim3cl ?lrlim3cl ?lhlim3cl); (case lglim3cl => rfl); (case lolim3cl => rfl); (case lxlim3cl => rfl); (case lrlim3cl => exact HLD.out))
    | (go_at_call 8; (with_reducible refine HP.out.mono ?_); rintro x w5 ⟨rfl, hb5⟩; have HB5 := Lib.hid (HB4.out.trans (hb5.mono HB4.out.size)); have HT5 := Lib.hid (HI.out.next HTW.out HB5.out))
    | (go_at_call 7; refine (awake_any HI.out _ HT5.out).mono ?_; rintro x w9 ⟨rfl, hb9⟩))
  all_goals go_ret
  all_goals first
    | exact ⟨rfl, HB5.out.trans (hb9.mono HB5.out.size)⟩
    | exact ⟨by simp; omega, HB5.out.trans (hb9.mono HB5.out.size)⟩
    | exact absurd rfl HFN.out

set_option maxHeartbeats 8000000 in
set_option maxRecDepth 100000 in
theorem lim7 {T : World → Prop} (hI : EnIs T) (k n : Int) (w : World) (hT : T w) (hn0 : 0 ≤ n) (hn1 : n ≤ 65535) (m : Nat) (hm : n.tmod 2000 = (m : Int)) (hm2 : m < 2000) (hk : k = 7) :
    Calls Tryd.prog 6 #[.int .i64 k, .int .u16 n] w fun x w' => x = .returned (.bool true) ∧ Below w.heap.size w w' := by
  have HI := Lib.hid hI
  have HTW := Lib.hid hT
  have m0 : (0 : Int) ≤ (m : Int) := Int.natCast_nonneg _
  have m1 : (m : Int) < 2000 := by omega
  have hme : n % 2000 = (m : Int) := by rw [← Int.tmod_eq_emod_of_nonneg hn0]; exact hm
  obtain ⟨w1, hw1⟩ : ∃ u, u = w.alloc (.cells (bv (List.replicate m 0)).toArray 5) := ⟨_, rfl⟩
  have hb1 : Below w.heap.size w w1 := by rw [hw1]; exact (Below.refl _ _).alloc (Nat.le_refl _) _
  have hmk := run_make_m m (by omega) w
  have hx1 : Blk w1 w.heap.size 5 (bv (List.replicate m 0)).toArray := by rw [hw1]; exact Blk.new w _ _
  rw [← hw1] at hmk
  have hcv := str_zeros hx1
  obtain ⟨z, hz⟩ : ∃ z, z = oct.tx (List.replicate m 0) := ⟨_, rfl⟩
  rw [← hz] at hcv
  obtain ⟨e0, he0⟩ : ∃ e, e = zeE k [] m := ⟨_, rfl⟩
  have hbd : ∀ u : World, (Instr.build 25 #[(0, .int .i64 k), (2, .string z)]).run Tryd.prog u = .ok (env e0) u := fun u => by
    have := run_build_kb u k z
    rw [hz, oct.tx_list, ← hz] at this
    rw [he0]; exact this
  have he32 : e0.commit.length = 32 := by rw [he0]; exact zlen
  have HST := Lib.hid (run_hold w1 e0 he32)
  obtain ⟨w3, hw3⟩ : ∃ u, u = heldW w1 e0 := ⟨_, rfl⟩
  have hk3 := held_blk w1 e0
  have hb3 := held_below w1 e0
  rw [← hw3] at HST hk3 hb3
  have HB3 := Lib.hid (hb1.trans (hb3.mono hb1.size))
  have HT3 := Lib.hid (hI.next hT HB3.out)
  have HBD := Lib.hid hbd
  subst hk
  have hc : checkE (zeE 7 [114, 97] m) = 0 := check_7 m hm2
  have ct := (EnBlk.of hk3 he32).topic
  have ft := hk3.frozen 1
  have hk4 := enm_topic hk3 [114, 97]
  have HB4 := Lib.hid (HB3.out.setCell (p := ⟨w1.heap.size, 1, none⟩) hb1.size (.string (oct.tx [114, 97])))
  obtain ⟨w4, hw4⟩ : ∃ u, u = w3.setCell ⟨w1.heap.size, 1, none⟩ (.string ⟨#[114, 97]⟩) := ⟨_, rfl⟩
  have HB4 : Hid (Below w.heap.size w w4) := Lib.hid (by rw [hw4]; exact HB4.out)
  have hk4 : Blk w4 w1.heap.size 25 (enc { e0 with topic := [114, 97] }).toArray := by rw [hw4]; exact hk4
  have HLD := Lib.hid (run_load_en hk4 he32)
  obtain ⟨e1, he1⟩ : ∃ e, e = { e0 with topic := [114, 97] } := ⟨_, rfl⟩
  rw [← he1] at HLD
  have he1z : e1 = zeE 7 [114, 97] m := by rw [he1, he0]; rfl
  have hp := hI.put e1 w4 (hI.next hT HB4.out) (by rw [he1z]; exact zlen) (by rw [he1z]; show (2 : Nat) ≤ _; decide) (by rw [he1z]; show (List.replicate m (0 : UInt8)).length ≤ _; rw [List.length_replicate]; omega)
  rw [hw4] at HLD hp HB4
  have hpo := put_ok (e := e1) (by rw [he1z]; exact hc)
  rw [hpo] at hp
  obtain ⟨s, hs⟩ : ∃ s, s = oct.tx (enE e1) := ⟨_, rfl⟩
  have hsz : (s.size : Int) ≤ (m : Int) + 4 := by have h := (ze_size 7 [114, 97] m (by decide)).1; rw [hs, oct.tx_size, he1z]; omega
  have sE : s.toList.isEmpty = false := by
    have h := (ze_size 7 [114, 97] m (by decide)).2
    rw [hs, tx_emp, he1z]
    cases hh : enE (zeE 7 [114, 97] m) with
    | nil => rw [hh] at h; simp at h
    | cons a l => rfl
  simp only at hp
  rw [← hs] at hp
  have HP := Lib.hid hp
  clear hI hT hb1 hx1 hw1 hz he0 hbd hw3 hb3 hp hpo hs he1z hc he1 hk4 hw4
  go_enter Tryd.func6, Tryd.ntmps6
  go_upto_region 2 with fail
  refine wp_region_lit ?_
  refine step_move rfl rfl ?_
  refine step_move rfl rfl ?_
  refine step_exec rfl (exec_make rfl rfl rfl hmk) ?_
  refine step_exec rfl (exec_convert rfl rfl hcv) ?_
  refine step_build (ps := #[(0, .int .i64 7), (2, .string z)]) rfl rfl (by first | rfl | kernel_rfl | simp [Act.put, Act.eval]) (HBD.out _) ?_
  simp only [Act.put, List.setIfInBounds_toArray, List.set_cons_zero, List.set_cons_succ]
  go_wp2_with (first
    | (refine step_move (x := .tmp 77777) rfl rfl ?_)
    | ((with_reducible refine step_store_run (t := 25) (x := .tmp 6) (y := .tmp 19) (p := ?splim7s) (v := ?svlim7s) (w' := ?swlim7s) ?sglim7s ?solim7s ?sxlim7s ?sylim7s ?srlim7s ?shlim7s); (case sglim7s => rfl); (case solim7s => rfl); (case sxlim7s => rfl); (case sylim7s => rfl); (case srlim7s => exact HST.out))
    | ((with_reducible refine step_load (t := 25) (x := .tmp 6) (p := ?lplim7l) (v := ?lvlim7l) ?lglim7l ?lolim7l ?lxlim7l ?lrlim7l ?lhlim7l); (case lglim7l => rfl); (case lolim7l => rfl); (case lxlim7l => rfl); (case lrlim7l => exact HLD.out))
    | (go_at_call 8; (with_reducible refine HP.out.mono ?_); rintro x w5 ⟨rfl, hb5⟩; have HB5 := Lib.hid (HB4.out.trans (hb5.mono HB4.out.size)); have HT5 := Lib.hid (HI.out.next HTW.out HB5.out))
    | (go_at_call 7; refine (awake_any HI.out _ HT5.out).mono ?_; rintro x w9 ⟨rfl, hb9⟩))
  all_goals go_ret
  all_goals first
    | exact ⟨rfl, HB5.out.trans (hb9.mono HB5.out.size)⟩
    | exact ⟨by simp; omega, HB5.out.trans (hb9.mono HB5.out.size)⟩
    | exact absurd rfl HFN.out

set_option maxHeartbeats 8000000 in
set_option maxRecDepth 100000 in
theorem limd {T : World → Prop} (hI : EnIs T) (k n : Int) (w : World) (hT : T w) (hn0 : 0 ≤ n) (hn1 : n ≤ 65535) (m : Nat) (hm : n.tmod 2000 = (m : Int)) (hm2 : m < 2000) (hk : ¬ (k = 1 ∨ k = 2 ∨ k = 3 ∨ k = 7)) (hz0 : m ≠ 0) :
    Calls Tryd.prog 6 #[.int .i64 k, .int .u16 n] w fun x w' => x = .returned (.bool true) ∧ Below w.heap.size w w' := by
  have HI := Lib.hid hI
  have HTW := Lib.hid hT
  have m0 : (0 : Int) ≤ (m : Int) := Int.natCast_nonneg _
  have m1 : (m : Int) < 2000 := by omega
  have hme : n % 2000 = (m : Int) := by rw [← Int.tmod_eq_emod_of_nonneg hn0]; exact hm
  obtain ⟨w1, hw1⟩ : ∃ u, u = w.alloc (.cells (bv (List.replicate m 0)).toArray 5) := ⟨_, rfl⟩
  have hb1 : Below w.heap.size w w1 := by rw [hw1]; exact (Below.refl _ _).alloc (Nat.le_refl _) _
  have hmk := run_make_m m (by omega) w
  have hx1 : Blk w1 w.heap.size 5 (bv (List.replicate m 0)).toArray := by rw [hw1]; exact Blk.new w _ _
  rw [← hw1] at hmk
  have hcv := str_zeros hx1
  obtain ⟨z, hz⟩ : ∃ z, z = oct.tx (List.replicate m 0) := ⟨_, rfl⟩
  rw [← hz] at hcv
  obtain ⟨e0, he0⟩ : ∃ e, e = zeE k [] m := ⟨_, rfl⟩
  have hbd : ∀ u : World, (Instr.build 25 #[(0, .int .i64 k), (2, .string z)]).run Tryd.prog u = .ok (env e0) u := fun u => by
    have := run_build_kb u k z
    rw [hz, oct.tx_list, ← hz] at this
    rw [he0]; exact this
  have he32 : e0.commit.length = 32 := by rw [he0]; exact zlen
  have HST := Lib.hid (run_hold w1 e0 he32)
  obtain ⟨w3, hw3⟩ : ∃ u, u = heldW w1 e0 := ⟨_, rfl⟩
  have hk3 := held_blk w1 e0
  have hb3 := held_below w1 e0
  rw [← hw3] at HST hk3 hb3
  have HB3 := Lib.hid (hb1.trans (hb3.mono hb1.size))
  have HT3 := Lib.hid (hI.next hT HB3.out)
  have HBD := Lib.hid hbd
  have b1 : (k == 1) = false := beq_eq_false_iff_ne.2 (by omega)
  have b2 : (k == 2) = false := beq_eq_false_iff_ne.2 (by omega)
  have b3 : (k == 3) = false := beq_eq_false_iff_ne.2 (by omega)
  have b7 : (k == 7) = false := beq_eq_false_iff_ne.2 (by omega)
  have hc : checkE (zeE k [] m) ≠ 0 := check_d k m hk hz0
  have i1 : ((m : Int) == 0) = false := beq_eq_false_iff_ne.2 (by omega)
  clear hk hz0
  have HLD := Lib.hid (run_load_en hk3 he32)
  have HB4 := HB3
  have hp := hI.put e0 w3 HT3.out he32 (by rw [he0]; exact Nat.zero_le _) (by rw [he0]; show (List.replicate m (0 : UInt8)).length ≤ _; rw [List.length_replicate]; omega)
  have he1z := he0
  have hpo := put_no (e := e0) (by rw [he1z]; exact hc)
  rw [hpo] at hp
  obtain ⟨s, hs⟩ : ∃ s, s = oct.tx [] := ⟨_, rfl⟩
  have sE : s.toList.isEmpty = true := by rw [hs, tx_emp]; rfl
  obtain ⟨f, hf⟩ : ∃ f, f = checkE e0 := ⟨_, rfl⟩
  have hfn : (f == 0) = false := beq_eq_false_iff_ne.2 (by rw [hf, he1z]; exact hc)
  have HFN : Hid (f ≠ 0) := Lib.hid (by rw [hf, he1z]; exact hc)
  simp only at hp
  rw [← hs, ← hf] at hp
  have HP := Lib.hid hp
  clear hI hT hb1 hx1 hw1 hz he0 hbd hw3 hb3 hp hpo hs he1z hc hk3 hf
  go_enter Tryd.func6, Tryd.ntmps6
  go_upto_region 2 with fail
  refine wp_region_lit ?_
  refine step_move rfl rfl ?_
  refine step_move rfl rfl ?_
  refine step_exec rfl (exec_make rfl rfl rfl hmk) ?_
  refine step_exec rfl (exec_convert rfl rfl hcv) ?_
  refine step_build (ps := #[(0, .int .i64 k), (2, .string z)]) rfl rfl (by first | rfl | kernel_rfl | simp [Act.put, Act.eval]) (HBD.out _) ?_
  simp only [Act.put, List.setIfInBounds_toArray, List.set_cons_zero, List.set_cons_succ]
  go_wp2_with (first
    | (refine step_move (x := .tmp 77777) rfl rfl ?_)
    | ((with_reducible refine step_store_run (t := 25) (x := .tmp 6) (y := .tmp 19) (p := ?splimds) (v := ?svlimds) (w' := ?swlimds) ?sglimds ?solimds ?sxlimds ?sylimds ?srlimds ?shlimds); (case sglimds => rfl); (case solimds => rfl); (case sxlimds => rfl); (case sylimds => rfl); (case srlimds => exact HST.out))
    | ((with_reducible refine step_load (t := 25) (x := .tmp 6) (p := ?lplimdl) (v := ?lvlimdl) ?lglimdl ?lolimdl ?lxlimdl ?lrlimdl ?lhlimdl); (case lglimdl => rfl); (case lolimdl => rfl); (case lxlimdl => rfl); (case lrlimdl => exact HLD.out))
    | (go_at_call 8; (with_reducible refine HP.out.mono ?_); rintro x w5 ⟨rfl, hb5⟩; have HB5 := Lib.hid (HB4.out.trans (hb5.mono HB4.out.size)); have HT5 := Lib.hid (HI.out.next HTW.out HB5.out))
    | (go_at_call 7; refine (awake_any HI.out _ HT5.out).mono ?_; rintro x w9 ⟨rfl, hb9⟩))
  all_goals go_ret
  all_goals first
    | exact ⟨rfl, HB5.out.trans (hb9.mono HB5.out.size)⟩
    | exact ⟨by simp; omega, HB5.out.trans (hb9.mono HB5.out.size)⟩
    | exact absurd rfl HFN.out

set_option maxHeartbeats 8000000 in
set_option maxRecDepth 100000 in
theorem lime {T : World → Prop} (hI : EnIs T) (k n : Int) (w : World) (hT : T w) (hn0 : 0 ≤ n) (hn1 : n ≤ 65535) (m : Nat) (hm : n.tmod 2000 = (m : Int)) (hm2 : m < 2000) (hk : ¬ (k = 1 ∨ k = 2 ∨ k = 3 ∨ k = 7)) (hz0 : m = 0) :
    Calls Tryd.prog 6 #[.int .i64 k, .int .u16 n] w fun x w' => x = .returned (.bool true) ∧ Below w.heap.size w w' := by
  have HI := Lib.hid hI
  have HTW := Lib.hid hT
  have m0 : (0 : Int) ≤ (m : Int) := Int.natCast_nonneg _
  have m1 : (m : Int) < 2000 := by omega
  have hme : n % 2000 = (m : Int) := by rw [← Int.tmod_eq_emod_of_nonneg hn0]; exact hm
  obtain ⟨w1, hw1⟩ : ∃ u, u = w.alloc (.cells (bv (List.replicate m 0)).toArray 5) := ⟨_, rfl⟩
  have hb1 : Below w.heap.size w w1 := by rw [hw1]; exact (Below.refl _ _).alloc (Nat.le_refl _) _
  have hmk := run_make_m m (by omega) w
  have hx1 : Blk w1 w.heap.size 5 (bv (List.replicate m 0)).toArray := by rw [hw1]; exact Blk.new w _ _
  rw [← hw1] at hmk
  have hcv := str_zeros hx1
  obtain ⟨z, hz⟩ : ∃ z, z = oct.tx (List.replicate m 0) := ⟨_, rfl⟩
  rw [← hz] at hcv
  obtain ⟨e0, he0⟩ : ∃ e, e = zeE k [] m := ⟨_, rfl⟩
  have hbd : ∀ u : World, (Instr.build 25 #[(0, .int .i64 k), (2, .string z)]).run Tryd.prog u = .ok (env e0) u := fun u => by
    have := run_build_kb u k z
    rw [hz, oct.tx_list, ← hz] at this
    rw [he0]; exact this
  have he32 : e0.commit.length = 32 := by rw [he0]; exact zlen
  have HST := Lib.hid (run_hold w1 e0 he32)
  obtain ⟨w3, hw3⟩ : ∃ u, u = heldW w1 e0 := ⟨_, rfl⟩
  have hk3 := held_blk w1 e0
  have hb3 := held_below w1 e0
  rw [← hw3] at HST hk3 hb3
  have HB3 := Lib.hid (hb1.trans (hb3.mono hb1.size))
  have HT3 := Lib.hid (hI.next hT HB3.out)
  have HBD := Lib.hid hbd
  have b1 : (k == 1) = false := beq_eq_false_iff_ne.2 (by omega)
  have b2 : (k == 2) = false := beq_eq_false_iff_ne.2 (by omega)
  have b3 : (k == 3) = false := beq_eq_false_iff_ne.2 (by omega)
  have b7 : (k == 7) = false := beq_eq_false_iff_ne.2 (by omega)
  have i1 : ((m : Int) == 0) = true := beq_iff_eq.2 (by omega)
  have hc := hz0
  clear hk hz0
  have HLD := Lib.hid (run_load_en hk3 he32)
  have HB4 := HB3
  have hp := hI.put e0 w3 HT3.out he32 (by rw [he0]; exact Nat.zero_le _) (by rw [he0]; show (List.replicate m (0 : UInt8)).length ≤ _; rw [List.length_replicate]; omega)
  have he1z := he0
  obtain ⟨s, hs⟩ : ∃ s, s = oct.tx (putE e0).1 := ⟨_, rfl⟩
  obtain ⟨f, hf⟩ : ∃ f, f = (putE e0).2 := ⟨_, rfl⟩
  have hpo := hs
  rw [← hs, ← hf] at hp
  have HP := Lib.hid hp
  clear hI hT hb1 hx1 hw1 hz he0 hbd hw3 hb3 hp hpo hs he1z hc hk3 hf
  go_enter Tryd.func6, Tryd.ntmps6
  go_upto_region 2 with fail
  refine wp_region_lit ?_
  refine step_move rfl rfl ?_
  refine step_move rfl rfl ?_
  refine step_exec rfl (exec_make rfl rfl rfl hmk) ?_
  refine step_exec rfl (exec_convert rfl rfl hcv) ?_
  refine step_build (ps := #[(0, .int .i64 k), (2, .string z)]) rfl rfl (by first | rfl | kernel_rfl | simp [Act.put, Act.eval]) (HBD.out _) ?_
  simp only [Act.put, List.setIfInBounds_toArray, List.set_cons_zero, List.set_cons_succ]
  go_wp2_with (first
    | (refine step_move (x := .tmp 77777) rfl rfl ?_)
    | ((with_reducible refine step_store_run (t := 25) (x := .tmp 6) (y := .tmp 19) (p := ?splimes) (v := ?svlimes) (w' := ?swlimes) ?sglimes ?solimes ?sxlimes ?sylimes ?srlimes ?shlimes); (case sglimes => rfl); (case solimes => rfl); (case sxlimes => rfl); (case sylimes => rfl); (case srlimes => exact HST.out))
    | ((with_reducible refine step_load (t := 25) (x := .tmp 6) (p := ?lplimel) (v := ?lvlimel) ?lglimel ?lolimel ?lxlimel ?lrlimel ?lhlimel); (case lglimel => rfl); (case lolimel => rfl); (case lxlimel => rfl); (case lrlimel => exact HLD.out))
    | (go_at_call 8; (with_reducible refine HP.out.mono ?_); rintro x w5 ⟨rfl, hb5⟩; have HB5 := Lib.hid (HB4.out.trans (hb5.mono HB4.out.size)); have HT5 := Lib.hid (HI.out.next HTW.out HB5.out))
    | (go_at_call 7; refine (awake_any HI.out _ HT5.out).mono ?_; rintro x w9 ⟨rfl, hb9⟩))
  all_goals go_ret
  all_goals first
    | exact ⟨rfl, HB5.out.trans (hb9.mono HB5.out.size)⟩
    | exact ⟨by simp; omega, HB5.out.trans (hb9.mono HB5.out.size)⟩
    | exact absurd rfl HFN.out
end Go.Proofs.YtbhkegdohiekfaaDoor.ent
