/-
  What header's functions answer; awake.
-/
import Derived.Test.YtmaolmogccknbaaDoorHdof
import Derived.Test.YtmaolmogccknbaaDoorHdsm
import Derived.Test.YtmaolmogccknbaaDoorHdid
import Derived.Deep.RegionHeld3
namespace Go.Proofs.YtmaolmogccknbaaDoor.hdr
open Go.RowKit Go.Proofs.YtmaolmogccknbaaDoor.mem Go.Proofs.YtmaolmogccknbaaDoor.sha Go.Proofs.YtmaolmogccknbaaDoor.ids
open Go.Proofs.YtmaolmogccknbaaDoor.opn (b1 b2 b4 num txt idl byte rd rdN rdT rdI rdS rdL St Reads Stays endE zid mkId)

structure HdIs (T : World → Prop) : Prop where
  next : ∀ {w w' : World}, T w → Below w.heap.size w w' → T w'
  check : ∀ (h : Hd) (v : Value) (w : World), T w → h.commit.length = 32 → RdV w v h.parents → h.parents.length ≤ 1000 → h.topic.length ≤ 140737488351232 → Calls Tryd.prog 27 #[hdv h v] w fun e w' => e = .returned (.int .i64 (checkH h)) ∧ Below w.heap.size w w'
  put : ∀ (h : Hd) (v : Value) (w : World), T w → h.commit.length = 32 → RdV w v h.parents → h.parents.length ≤ 1000 → h.topic.length ≤ 140737488351232 → Calls Tryd.prog 23 #[hdv h v] w fun e w' => e = .returned (.tuple #[.string (oct.tx (putH h).1), .int .i64 (putH h).2]) ∧ Below w.heap.size w w'
  of : ∀ (s : ByteArray) (w : World), T w → s.size ≤ 281474976710656 → Calls Tryd.prog 31 #[.string s] w fun e w' => ∃ v, e = .returned (.tuple #[hdv (ofH s.data.toList).1 v, .int .i64 (ofH s.data.toList).2]) ∧ RdV w' v (ofH s.data.toList).1.parents ∧ Below w.heap.size w w'
  ident : ∀ (h : Hd) (v : Value) (w : World), T w → h.commit.length = 32 → RdV w v h.parents → h.parents.length ≤ 1000 → h.topic.length ≤ 140737488351232 → Calls Tryd.prog 25 #[hdv h v] w fun e w' => e = .returned (.tuple #[idv (idH h).1, .int .i64 (idH h).2]) ∧ Below w.heap.size w w'
  same : ∀ (x y : Hd) (vx vy : Value) (w : World), T w → x.commit.length = 32 → y.commit.length = 32 → RdV w vx x.parents → RdV w vy y.parents → Calls Tryd.prog 29 #[hdv x vx, hdv y vy] w fun e w' => e = .returned (.bool (sameH x y)) ∧ Below w.heap.size w w'
  ahead : ∀ (x : Int) (a : List UInt8) (y : Int) (b : List UInt8) (w : World), T w → a.length = 32 → b.length = 32 → Calls Tryd.prog 34 #[.int .i64 x, idv a, .int .i64 y, idv b] w fun e w' => e = .returned (.bool (aheadB x a y b)) ∧ Below w.heap.size w w'
  sum : ∀ (s : ByteArray) (w : World), T w → s.size ≤ 1000000 → Calls Tryd.prog 33 #[.string s] w fun e w' => e = .returned (idv (digest s.data.toList)) ∧ Below w.heap.size w w'
theorem idH_len (h : Hd) : (idH h).1.length = 32 := by
  unfold idH
  split
  · exact zid32
  · rfl
theorem rdH_commit (st : St) : (rdH st).1.commit.length = 32 := opn.rdI_len _
theorem rdH_parents (st : St) : (rdH st).1.parents.length ≤ 255 := by
  show (rdL (rdN 1 st).1.toNat (rdN 1 st).2).1.length ≤ 255
  rw [rdL_len]
  have := opn.rdN1_lt st
  omega
theorem rdH_topic (st : St) : (rdH st).1.topic.length ≤ 255 := rdT_len _
theorem of_parts (s : List UInt8) : (ofH s).1.commit.length = 32 ∧ (ofH s).1.parents.length ≤ 255 ∧ (ofH s).1.topic.length ≤ 255 := by
  have hz : zhd.commit.length = 32 ∧ zhd.parents.length ≤ 255 ∧ zhd.topic.length ≤ 255 := ⟨zcom, Nat.zero_le _, Nat.zero_le _⟩
  have hr : (rdH (s, 0)).1.commit.length = 32 ∧ (rdH (s, 0)).1.parents.length ≤ 255 ∧ (rdH (s, 0)).1.topic.length ≤ 255 := ⟨rdH_commit _, rdH_parents _, rdH_topic _⟩
  by_cases hl : 256 < s.length
  · unfold ofH; rw [if_pos hl]; exact hz
  rw [ofH_eq s hl]
  split
  · exact hz
  split
  · exact hz
  · exact hr
theorem eql_self (w : World) (x : List UInt8) (hx : x.length = 32) : (binOp .eql 23 (idv x) (idv x)).run Tryd.prog w = .ok (.bool true) w := by
  rw [eql_ids w x x hx hx]
  simp
/-- an id that was told, held in a block of its own -/
def heldI (w : World) (y : List UInt8) : World := (w.alloc (.cells (bv zid).toArray 23)).setRow w.heap.size (bv y).toArray
theorem run_holdI (w : World) (y : List UInt8) (hy : y.length = 32) : (Instr.storeAt 23 (.pointer (some ⟨w.heap.size, 0, none⟩)) (idv y)).run Tryd.prog (w.alloc (.cells (bv zid).toArray 23)) = .ok () (heldI w y) :=
  run_store_idw (Blk.new w 23 (bv zid).toArray) zid32 hy
theorem heldI_blk (w : World) (y : List UInt8) : Blk (heldI w y) w.heap.size 23 (bv y).toArray := setRow_heap _ _ _ _ _ _ (Blk.new w 23 (bv zid).toArray)
theorem heldI_below (w : World) (y : List UInt8) : Below w.heap.size w (heldI w y) := below_row' ((Below.refl _ _).alloc (Nat.le_refl _) _) (Nat.le_refl _) _
/-- what stands while two parts are looked at: an id in a block -/
structure IdS (T : World → Prop) (w0 : World) (I : Nat) (y : List UInt8) (u : World) : Prop where
  t : T u
  i : Blk u I 23 (bv y).toArray
  below : Below w0.heap.size w0 u
theorem IdS.next {T : World → Prop} (hI : HdIs T) {w0 : World} {I : Nat} {y : List UInt8} {u u' : World} (h : IdS T w0 I y u) (hb : Below u.heap.size u u') : IdS T w0 I y u' :=
  ⟨hI.next h.t hb, h.i.below hb h.i.lt, h.below.trans (hb.mono h.below.size)⟩

def ahH : Hd := ⟨[], 1, [99, 97], 0, 1, 1, zid⟩
theorem ah_check : checkH ahH = 0 := by decide +kernel
theorem ah_len : (enH ahH).length = 47 := by decide +kernel
theorem run_build_ah (w : World) : (Instr.build 46 #[(1, .int .i64 1), (2, .string ⟨#[99, 97]⟩), (4, .int .i64 1), (5, .int .i64 1)]).run Tryd.prog w = .ok (hdv ahH nv) w := by kernel_rfl

set_option maxHeartbeats 4000000 in
set_option maxRecDepth 100000 in
theorem awake_any {T : World → Prop} (hI : HdIs T) (w : World) (hT : T w) : Calls Tryd.prog 22 #[] w fun e w' => e = .returned (.bool true) ∧ Below w.heap.size w w' := by
  have hh := run_hold w ahH nv zid32 nv_one
  have hk := held_blk w ahH nv
  have hb := held_below w ahH nv
  obtain ⟨w1, hw1⟩ : ∃ w1, w1 = heldW w ahH nv := ⟨_, rfl⟩
  rw [← hw1] at hh hk hb
  have hld := run_load_hd hk zid32
  have hT1 := hI.next hT hb
  have hput := hI.put ahH nv w1 hT1 zid32 (nv_rd w1) (by decide) (by decide)
  rw [put_ok ah_check] at hput
  obtain ⟨l, hl⟩ : ∃ l, l = enH ahH := ⟨_, rfl⟩
  have hll : l.length = 47 := by rw [hl]; exact ah_len
  have hidh : idH ahH = (digest l, 0) := by unfold idH; rw [ah_check, hl]; rfl
  rw [← hl] at hput
  obtain ⟨s, hs⟩ : ∃ s, s = oct.tx l := ⟨_, rfl⟩
  simp only at hput
  rw [← hs] at hput
  have hsz : s.size = 47 := by rw [hs, oct.tx_size, hll]
  obtain ⟨y, hy⟩ : ∃ y, y = digest l := ⟨_, rfl⟩
  rw [← hy] at hidh
  have hyl : y.length = 32 := by rw [hy]; rfl
  have HIH := Lib.hid hidh
  have HYL := Lib.hid hyl
  have hsum := fun u (h : T u) => hI.sum s u h (by rw [hsz]; decide)
  rw [hs, oct.tx_list, ← hs, ← hy] at hsum
  have HSUM := Lib.hid hsum
  have HI := Lib.hid hI
  have HT := Lib.hid hT1
  have HPUT := Lib.hid hput
  have HK := Lib.hid hk
  have HB := Lib.hid hb
  have HH := Lib.hid hh
  have i47 : (s.size : Int) = 47 := by omega
  clear hI hT hT1 hput hll hidh hs hsz hy hl hsum hh hk hb hw1 hyl
  go_enter Tryd.func22, Tryd.ntmps22
  go_upto_region 4 with (first
    | ((with_reducible refine step_build (t := 46) (parts := #[(1, .const (.int .i64 1)), (2, .const (.string ⟨#[99, 97]⟩)), (4, .const (.int .i64 1)), (5, .const (.int .i64 1))]) (ps := #[(1, .int .i64 1), (2, .string ⟨#[99, 97]⟩), (4, .int .i64 1), (5, .int .i64 1)]) (v := ?bvb1) ?bgb1 ?bob1 ?bxb1 ?brb1 ?bhb1); (case bgb1 => rfl); (case bob1 => rfl); (case bxb1 => (first | rfl | simp)); (case brb1 => exact run_build_ah _))
    | ((with_reducible refine step_store_run (t := 46) (x := .tmp 1) (y := .tmp 6) (p := ?spa) (v := ?sva) (w' := ?swa) ?sga ?soa ?sxa ?sya ?sra ?sha); (case sga => rfl); (case soa => rfl); (case sxa => rfl); (case sya => rfl); (case sra => exact HH.out))
    | ((with_reducible refine step_load (t := 46) (x := .tmp 1) (p := ?lpl1) (v := ?lvl1) ?lgl1 ?lol1 ?lxl1 ?lrl1 ?lhl1); (case lgl1 => rfl); (case lol1 => rfl); (case lxl1 => rfl); (case lrl1 => exact hld))
    | (go_at_call 23; (with_reducible refine HPUT.out.mono ?_); rintro e w2 ⟨rfl, hb2⟩; have hk2 := HK.out.below hb2 HK.out.lt; have hld2 := run_load_hd hk2 zid32; have hid := HI.out.ident ahH nv w2 (HI.out.next HT.out hb2) zid32 (nv_rd w2) (by decide) (by decide); rw [HIH.out] at hid; have HID := Lib.hid hid; have HB2 := Lib.hid hb2; clear hk2 hid hb2)
    | ((with_reducible refine step_load (t := 46) (x := .tmp 1) (p := ?lpl2) (v := ?lvl2) ?lgl2 ?lol2 ?lxl2 ?lrl2 ?lhl2); (case lgl2 => rfl); (case lol2 => rfl); (case lxl2 => rfl); (case lrl2 => exact hld2))
    | (go_at_call 25; (with_reducible refine HID.out.mono ?_); rintro e w3 ⟨rfl, hb3⟩; have hh3 := run_holdI w3 y HYL.out; have hk3 := heldI_blk w3 y; have hbb := heldI_below w3 y; obtain ⟨w4, hw4⟩ : ∃ w4, w4 = heldI w3 y := ⟨_, rfl⟩; rw [← hw4] at hh3 hk3 hbb; have b13 := HB2.out.trans (hb3.mono HB2.out.size); have b14 := b13.trans (hbb.mono b13.size); have H4 : Hid (IdS T w w3.heap.size y w4) := Lib.hid ⟨HI.out.next HT.out b14, hk3, HB.out.trans (b14.mono HB.out.size)⟩; have HH3 := Lib.hid hh3; clear hh3 hk3 hbb hw4 hb3 b13 b14)
    | ((with_reducible refine step_store_run (t := 23) (x := .tmp 4) (y := .tmp 15) (p := ?spb) (v := ?svb) (w' := ?swb) ?sgb ?sob ?sxb ?syb ?srb ?shb); (case sgb => rfl); (case sob => rfl); (case sxb => rfl); (case syb => rfl); (case srb => exact HH3.out)))
  refine wp_region_held_drew (S := IdS T w w3.heap.size y) (by kernel_rfl) ?_ (fun hHeld => ?_)
  · exact H4.out.next HI.out ((Below.refl _ _).drew)
  refine' wpAnyH_take (i := 0) ?hiaw0 (by kernel_rfl) (by kernel_rfl) (by kernel_rfl) ?hqaw0 (Or.inl ⟨?hwaw0, ?hyaw0⟩) (by assumption) ?hraw0
  case hiaw0 => (simp only [List.getElem?_toArray, List.getElem?_cons_succ, List.getElem?_cons_zero]; rfl)
  case hqaw0 => exact fun _ _ _ h => h
  case hwaw0 => rfl
  case hyaw0 => (intro w0 hSw; (try dsimp only at hSw); go_simp; try with_reducible rfl)
  (try simp only [Act.put, List.setIfInBounds_toArray, List.set_cons_zero, List.set_cons_succ])
  refine' wpAnyH_take (i := 1) ?hiaw1 (by kernel_rfl) (by kernel_rfl) (by kernel_rfl) ?hqaw1 (Or.inl ⟨?hwaw1, ?hyaw1⟩) (by assumption) ?hraw1
  case hiaw1 => (simp only [List.getElem?_toArray, List.getElem?_cons_succ, List.getElem?_cons_zero]; rfl)
  case hqaw1 => exact fun _ _ _ h => h
  case hwaw1 => rfl
  case hyaw1 => (intro w0 hSw; (try dsimp only at hSw); go_simp; try with_reducible rfl)
  (try simp only [Act.put, List.setIfInBounds_toArray, List.set_cons_zero, List.set_cons_succ])
  refine' wpAnyH_take (i := 2) ?hiaw2 (by kernel_rfl) (by kernel_rfl) (by kernel_rfl) ?hqaw2 (Or.inl ⟨?hwaw2, ?hyaw2⟩) (by assumption) ?hraw2
  case hiaw2 => (simp only [List.getElem?_toArray, List.getElem?_cons_succ, List.getElem?_cons_zero]; rfl)
  case hqaw2 => exact fun _ _ _ h => h
  case hwaw2 => rfl
  case hyaw2 => (intro w0 hSw; (try dsimp only at hSw); go_simp; try with_reducible rfl)
  (try simp only [Act.put, List.setIfInBounds_toArray, List.set_cons_zero, List.set_cons_succ])
  refine' wpAnyH_take (i := 3) ?hiaw3 (by kernel_rfl) (by kernel_rfl) (by kernel_rfl) ?hqaw3 (Or.inl ⟨?hwaw3, ?hyaw3⟩) (by assumption) ?hraw3
  case hiaw3 => (simp only [List.getElem?_toArray, List.getElem?_cons_succ, List.getElem?_cons_zero]; rfl)
  case hqaw3 => exact fun _ _ _ h => h
  case hwaw3 => rfl
  case hyaw3 => (intro w0 hSw; (try dsimp only at hSw); go_simp; try with_reducible rfl)
  (try simp only [Act.put, List.setIfInBounds_toArray, List.set_cons_zero, List.set_cons_succ])
  refine' wpAnyH_take (i := 4) ?hiaw4 (by kernel_rfl) (by kernel_rfl) (by kernel_rfl) ?hqaw4 (Or.inl ⟨?hwaw4, ?hyaw4⟩) (by assumption) ?hraw4
  case hiaw4 => (simp only [List.getElem?_toArray, List.getElem?_cons_succ, List.getElem?_cons_zero]; rfl)
  case hqaw4 => exact fun _ _ _ h => h
  case hwaw4 => rfl
  case hyaw4 => (intro w0 hSw; (try dsimp only at hSw); go_simp; try with_reducible rfl)
  (try simp only [Act.put, List.setIfInBounds_toArray, List.set_cons_zero, List.set_cons_succ])
  refine' wpAnyH_take (i := 5) ?hiaw5 (by kernel_rfl) (by kernel_rfl) (by kernel_rfl) ?hqaw5 (Or.inl ⟨?hwaw5, ?hyaw5⟩) (by assumption) ?hraw5
  case hiaw5 => (simp only [List.getElem?_toArray, List.getElem?_cons_succ, List.getElem?_cons_zero]; rfl)
  case hqaw5 => exact fun _ _ _ h => h
  case hwaw5 => rfl
  case hyaw5 => (intro w0 hSw; (try dsimp only at hSw); go_simp; try with_reducible rfl)
  (try simp only [Act.put, List.setIfInBounds_toArray, List.set_cons_zero, List.set_cons_succ])
  refine' wpAnyH_take (i := 6) ?hiaw6 (by kernel_rfl) (by kernel_rfl) (by kernel_rfl) ?hqaw6 (Or.inl ⟨?hwaw6, ?hyaw6⟩) (by assumption) ?hraw6
  case hiaw6 => (simp only [List.getElem?_toArray, List.getElem?_cons_succ, List.getElem?_cons_zero]; rfl)
  case hqaw6 => exact fun _ _ _ h => h
  case hwaw6 => rfl
  case hyaw6 => (intro w0 hSw; (try dsimp only at hSw); go_simp; try with_reducible rfl)
  (try simp only [Act.put, List.setIfInBounds_toArray, List.set_cons_zero, List.set_cons_succ])
  refine' wpAnyH_take (i := 7) ?hiaw7 (by kernel_rfl) (by kernel_rfl) (by kernel_rfl) ?hqaw7 (Or.inl ⟨?hwaw7, ?hyaw7⟩) (by assumption) ?hraw7
  case hiaw7 => (simp only [List.getElem?_toArray, List.getElem?_cons_succ, List.getElem?_cons_zero]; rfl)
  case hqaw7 => exact fun _ _ _ h => h
  case hwaw7 => rfl
  case hyaw7 => (intro w0 hSw; (try dsimp only at hSw); go_simp; try with_reducible rfl)
  (try simp only [Act.put, List.setIfInBounds_toArray, List.set_cons_zero, List.set_cons_succ])
  refine' wpAnyH_take (i := 8) ?hiaw8 (by kernel_rfl) (by kernel_rfl) (by kernel_rfl) ?hqaw8 (Or.inl ⟨?hwaw8, ?hyaw8⟩) (by assumption) ?hraw8
  case hiaw8 => (simp only [List.getElem?_toArray, List.getElem?_cons_succ, List.getElem?_cons_zero]; rfl)
  case hqaw8 => exact fun _ _ _ h => h
  case hwaw8 => rfl
  case hyaw8 => (intro w0 hSw; (try dsimp only at hSw); go_simp; try with_reducible rfl)
  (try simp only [Act.put, List.setIfInBounds_toArray, List.set_cons_zero, List.set_cons_succ])
  refine' wpAnyH_take (i := 9) ?hiaw9 (by kernel_rfl) (by kernel_rfl) (by kernel_rfl) ?hqaw9 (Or.inl ⟨?hwaw9, ?hyaw9⟩) (by assumption) ?hraw9
  case hiaw9 => (simp only [List.getElem?_toArray, List.getElem?_cons_succ, List.getElem?_cons_zero]; rfl)
  case hqaw9 => exact fun _ _ _ h => h
  case hwaw9 => rfl
  case hyaw9 => (intro w0 hSw; (try dsimp only at hSw); go_simp; try with_reducible rfl)
  (try simp only [Act.put, List.setIfInBounds_toArray, List.set_cons_zero, List.set_cons_succ])
  refine' wpAnyH_take (i := 10) ?hiaw10 (by kernel_rfl) (by kernel_rfl) (by kernel_rfl) ?hqaw10 (Or.inl ⟨?hwaw10, ?hyaw10⟩) (by assumption) ?hraw10
  case hiaw10 => (simp only [List.getElem?_toArray, List.getElem?_cons_succ, List.getElem?_cons_zero]; rfl)
  case hqaw10 => exact fun _ _ _ h => h
  case hwaw10 => rfl
  case hyaw10 => (intro w0 hSw; (try dsimp only at hSw); go_simp; try with_reducible rfl)
  (try simp only [Act.put, List.setIfInBounds_toArray, List.set_cons_zero, List.set_cons_succ])
  refine' wpAnyH_take (i := 11) ?hiaw11 (by kernel_rfl) (by kernel_rfl) (by kernel_rfl) ?hqaw11 (Or.inl ⟨?hwaw11, ?hyaw11⟩) (by assumption) ?hraw11
  case hiaw11 => (simp only [List.getElem?_toArray, List.getElem?_cons_succ, List.getElem?_cons_zero]; rfl)
  case hqaw11 => exact fun _ _ _ h => h
  case hwaw11 => rfl
  case hyaw11 => (intro w0 hSw; (try dsimp only at hSw); go_simp; try with_reducible rfl)
  (try simp only [Act.put, List.setIfInBounds_toArray, List.set_cons_zero, List.set_cons_succ])
  refine' wpAnyH_take (i := 12) ?hiaw12 (by kernel_rfl) (by kernel_rfl) (by kernel_rfl) ?hqaw12 (Or.inl ⟨?hwaw12, ?hyaw12⟩) (by assumption) ?hraw12
  case hiaw12 => (simp only [List.getElem?_toArray, List.getElem?_cons_succ, List.getElem?_cons_zero]; rfl)
  case hqaw12 => exact fun _ _ _ h => h
  case hwaw12 => rfl
  case hyaw12 => exact fun w0 hSw => run_exec_load rfl rfl (box_load hSw.i HYL.out 0)
  (try simp only [Act.put, List.setIfInBounds_toArray, List.set_cons_zero, List.set_cons_succ])
  refine' wpAnyH_take (i := 13) ?hiaw13 (by kernel_rfl) (by kernel_rfl) (by kernel_rfl) ?hqaw13 (Or.inl ⟨?hwaw13, ?hyaw13⟩) (by assumption) ?hraw13
  case hiaw13 => (simp only [List.getElem?_toArray, List.getElem?_cons_succ, List.getElem?_cons_zero]; rfl)
  case hqaw13 => exact fun _ _ _ h => h
  case hwaw13 => rfl
  case hyaw13 => (intro w0 hSw; (try dsimp only at hSw); go_simp; try with_reducible rfl)
  (try simp only [Act.put, List.setIfInBounds_toArray, List.set_cons_zero, List.set_cons_succ])
  refine wpAnyH_ready (rs := [14]) (by kernel_rfl) (by simp) ?_
  refine' AllReadyH.cons ?hiaw14 (fun K hK => ?hraw14) AllReadyH.nil
  case hiaw14 => (simp only [List.getElem?_toArray, List.getElem?_cons_succ, List.getElem?_cons_zero]; rfl)
  go_simp
  (refine (HSUM.out _ hHeld.t).mono ?_; rintro e wx ⟨rfl, hbx⟩)
  refine hK.out _ _ ?_ (fun hHeld => ?_)
  · exact hHeld.next HI.out hbx
  clear hK K
  (try simp only [Act.put, List.setIfInBounds_toArray, List.set_cons_zero, List.set_cons_succ])
  refine' wpAnyH_take (i := 15) ?hiaw15 (by kernel_rfl) (by kernel_rfl) (by kernel_rfl) ?hqaw15 (Or.inl ⟨?hwaw15, ?hyaw15⟩) (by assumption) ?hraw15
  case hiaw15 => (simp only [List.getElem?_toArray, List.getElem?_cons_succ, List.getElem?_cons_zero]; rfl)
  case hqaw15 => exact fun _ _ _ h => h
  case hwaw15 => rfl
  case hyaw15 => exact fun w0 hSw => exec_bin (op := .eql) (t := 23) (x := .tmp 29) (y := .tmp 31) rfl rfl rfl (run_eqGuard_agg w0 .eql 23 (.tmp 29) (.tmp 31) _ _ Tryd.eqGuardType23) (eql_self w0 y HYL.out)
  (try simp only [Act.put, List.setIfInBounds_toArray, List.set_cons_zero, List.set_cons_succ])
  refine' wpAnyH_take (i := 16) ?hiaw16 (by kernel_rfl) (by kernel_rfl) (by kernel_rfl) ?hqaw16 (Or.inl ⟨?hwaw16, ?hyaw16⟩) (by assumption) ?hraw16
  case hiaw16 => (simp only [List.getElem?_toArray, List.getElem?_cons_succ, List.getElem?_cons_zero]; rfl)
  case hqaw16 => exact fun _ _ _ h => h
  case hwaw16 => rfl
  case hyaw16 => (intro w0 hSw; (try dsimp only at hSw); go_simp; try with_reducible rfl)
  (try simp only [Act.put, List.setIfInBounds_toArray, List.set_cons_zero, List.set_cons_succ])
  refine' wpAnyH_take (i := 17) ?hiaw17 (by kernel_rfl) (by kernel_rfl) (by kernel_rfl) ?hqaw17 (Or.inl ⟨?hwaw17, ?hyaw17⟩) (by assumption) ?hraw17
  case hiaw17 => (simp only [List.getElem?_toArray, List.getElem?_cons_succ, List.getElem?_cons_zero]; rfl)
  case hqaw17 => exact fun _ _ _ h => h
  case hwaw17 => rfl
  case hyaw17 => (intro w0 hSw; (try dsimp only at hSw); go_simp; try with_reducible rfl)
  (try simp only [Act.put, List.setIfInBounds_toArray, List.set_cons_zero, List.set_cons_succ])
  refine wpAnyH_done (by kernel_rfl) ?_ _
  go_wp2_with fail
  go_ret
  exact ⟨rfl, hHeld.below⟩
end Go.Proofs.YtmaolmogccknbaaDoor.hdr
