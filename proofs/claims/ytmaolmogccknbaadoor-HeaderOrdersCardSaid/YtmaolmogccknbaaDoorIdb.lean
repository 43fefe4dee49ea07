/-
  The landed header: the flaws that Check looks for, each a closure over the header.
  The Hash as the model holds it; its words as an id.
-/
import Derived.Test.YtmaolmogccknbaaDoorHdis
import Derived.Test.YtmaolmogccknbaaDoorIsb
import Derived.Test.YtmaolmogccknbaaDoorTopj
import Derived.Test.YtmaolmogccknbaaDoorKitl
namespace Go.Proofs.YtmaolmogccknbaaDoor.hdr
open Go.RowKit Go.Proofs.YtmaolmogccknbaaDoor.mem Go.Proofs.YtmaolmogccknbaaDoor.sha Go.Proofs.YtmaolmogccknbaaDoor.ids
open Go.Proofs.YtmaolmogccknbaaDoor.opn (b1 b2 b4 num txt idl byte rd rdN rdT rdI rdS rdL St Reads Stays endE zid mkId)

/-- the tables that header's calls read -/
def Tabs (w : World) : Prop := sha.Tab w ∧ topic.Tab w
theorem Tabs.next {w w' : World} (h : Tabs w) (hb : Below w.heap.size w w') : Tabs w' := ⟨h.1.next hb, h.2.next hb⟩

def ptr (S : Nat) : Value := .pointer (some ⟨S, 0, none⟩)
def flawsV (S : Nat) : List Value :=
  [.int .i64 6, .func (.func 92) #[] #[ptr S], .int .i64 4, .func (.func 93) #[] #[ptr S],
   .int .i64 12, .func (.func 94) #[] #[ptr S], .int .i64 12, .func (.func 95) #[] #[ptr S],
   .int .i64 9, .func (.func 96) #[] #[ptr S], .int .i64 5, .func (.func 98) #[] #[ptr S],
   .int .i64 5, .func (.func 99) #[] #[ptr S], .int .i64 5, .func (.func 100) #[] #[ptr S]]
set_option maxHeartbeats 2000000 in
set_option maxRecDepth 100000 in
theorem flaws_any (h : Hd) (v : Value) (w : World) :
    Calls Tryd.prog 68 #[hdv h v] w fun e w' => e = .returned (.slice (some ⟨w.heap.size + 1, 0, none⟩) 8 8) ∧ w' = (w.alloc (.cells (hdc h v).toArray 46)).alloc (.cells (flawsV w.heap.size).toArray 96) := by
  obtain ⟨c, hc⟩ : ∃ c, c = (hdc h v).toArray := ⟨_, rfl⟩
  unfold hdv
  rw [← hc]
  go_enter Tryd.func68, Tryd.ntmps68
  go_wp2_with fail
  go_ret
  exact ⟨rfl, by rw [hc]; rfl⟩

/-! Each of them. -/
def flawB (h : Hd) : Nat → Bool
  | 0 => decide (4 < h.parents.length)
  | 1 => !(h.parents == setL h.parents)
  | 2 => decide (h.height < 1) || decide (1073741824 < h.height)
  | 3 => (h.height == 1) != ((h.parents.length : Int) == 0)
  | 4 => decide (topic.kindOf h.topic = 0)
  | 5 => decide (h.author < 0) || decide (255 < h.author)
  | 6 => decide (h.seq < 1) || decide (1073741824 < h.seq)
  | _ => decide (h.size < 1) || decide (512 < h.size)
set_option maxHeartbeats 1000000 in
theorem flaw1 (h : Hd) (v : Value) (w : World) (S : Nat) (hb : Blk w S 46 (hdc h v).toArray) (hr : h.commit.length = 32) (hv : RdV w v h.parents) :
    Calls Tryd.prog 92 #[ptr S] w fun e w' => e = .returned (.bool (flawB h 0)) ∧ Below w.heap.size w w' := by
  obtain ⟨ad, cap, rfl⟩ := hv.form
  have c := (HdBlk.of hb hr).parents
  obtain ⟨n, hn⟩ : ∃ n, n = h.parents.length := ⟨_, rfl⟩
  have HE : Hid (flawB h 0 = decide ((4 : Int) < n)) := Lib.hid (by rw [hn]; unfold flawB; simp only [decide_eq_decide]; omega)
  rw [← hn] at c
  rw [HE.out]
  unfold ptr
  clear hb hn HE hv
  go_enter Tryd.func92, Tryd.ntmps92
  go_wp2_with fail
  go_ret
  exact ⟨rfl, Below.refl _ _⟩
set_option maxHeartbeats 1000000 in
theorem flaw2 (h : Hd) (v : Value) (w : World) (S : Nat) (hb : Blk w S 46 (hdc h v).toArray) (hr : h.commit.length = 32) (hv : RdV w v h.parents) (hm : h.parents.length ≤ 1000) :
    Calls Tryd.prog 93 #[ptr S] w fun e w' => e = .returned (.bool (flawB h 1)) ∧ Below w.heap.size w w' := by
  have HIS := Lib.hid (ids.is_any h.parents v w hv (by omega))
  obtain ⟨ad, cap, rfl⟩ := hv.form
  have c := (HdBlk.of hb hr).parents
  have HE : Hid (flawB h 1 = !(h.parents == setL h.parents)) := Lib.hid rfl
  obtain ⟨b, hbb⟩ : ∃ b, b = (h.parents == setL h.parents) := ⟨_, rfl⟩
  rw [← hbb] at HE HIS
  obtain ⟨n, hn⟩ : ∃ n, n = h.parents.length := ⟨_, rfl⟩
  rw [← hn] at c HIS
  rw [HE.out]
  unfold ptr
  clear hb hn HE hv hbb hm
  go_enter Tryd.func93, Tryd.ntmps93
  go_wp2_with (go_at_call 48; (with_reducible refine HIS.out.mono ?_); rintro e w1 ⟨rfl, hb1⟩)
  go_ret
  exact ⟨rfl, hb1⟩
set_option maxHeartbeats 1000000 in
theorem flaw4 (h : Hd) (v : Value) (w : World) (S : Nat) (hb : Blk w S 46 (hdc h v).toArray) (hr : h.commit.length = 32) (hv : RdV w v h.parents) :
    Calls Tryd.prog 95 #[ptr S] w fun e w' => e = .returned (.bool (flawB h 3)) ∧ Below w.heap.size w w' := by
  obtain ⟨ad, cap, rfl⟩ := hv.form
  have c := (HdBlk.of hb hr).parents
  have c2 := (HdBlk.of hb hr).height
  obtain ⟨n, hn⟩ : ∃ n, n = h.parents.length := ⟨_, rfl⟩
  obtain ⟨x, hx⟩ : ∃ x, x = h.height := ⟨_, rfl⟩
  have HE : Hid (flawB h 3 = ((x == 1) != ((n : Int) == 0))) := Lib.hid (by rw [hn, hx]; rfl)
  rw [← hn] at c
  rw [← hx] at c2
  rw [HE.out]
  unfold ptr
  clear hb hn hx HE hv
  go_enter Tryd.func95, Tryd.ntmps95
  go_wp2_with fail
  go_ret
  exact ⟨rfl, Below.refl _ _⟩
set_option maxHeartbeats 1000000 in
theorem flaw5 (h : Hd) (v : Value) (w : World) (S : Nat) (hT : topic.Tab w) (hb : Blk w S 46 (hdc h v).toArray) (hr : h.commit.length = 32) (hs : h.topic.length ≤ 140737488351232) :
    Calls Tryd.prog 96 #[ptr S] w fun e w' => e = .returned (.bool (flawB h 4)) ∧ Below w.heap.size w w' := by
  have HCK := Lib.hid (topic.check_any (oct.tx h.topic) w hT (by rw [oct.tx_size]; omega))
  rw [oct.tx_list] at HCK
  have c := (HdBlk.of hb hr).topic
  obtain ⟨t, ht⟩ : ∃ t, t = oct.tx h.topic := ⟨_, rfl⟩
  rw [← ht] at c HCK
  unfold ptr
  clear hb ht hs hT
  by_cases h0 : topic.kindOf h.topic = 0
  · have HE : Hid (flawB h 4 = true) := Lib.hid (by unfold flawB; exact decide_eq_true h0)
    have HC : Hid (topic.checkOf h.topic = 9) := Lib.hid (by unfold topic.checkOf; rw [if_pos h0])
    rw [HE.out]
    rw [HC.out] at HCK
    clear h0 HE HC
    go_enter Tryd.func96, Tryd.ntmps96
    go_wp2_with (go_at_call 97; (with_reducible refine HCK.out.mono ?_); rintro e w1 ⟨rfl, hb1⟩)
    go_ret
    exact ⟨rfl, hb1⟩
  · have HE : Hid (flawB h 4 = false) := Lib.hid (by unfold flawB; exact decide_eq_false h0)
    have HC : Hid (topic.checkOf h.topic = 0) := Lib.hid (by unfold topic.checkOf; rw [if_neg h0])
    rw [HE.out]
    rw [HC.out] at HCK
    clear h0 HE HC
    go_enter Tryd.func96, Tryd.ntmps96
    go_wp2_with (go_at_call 97; (with_reducible refine HCK.out.mono ?_); rintro e w1 ⟨rfl, hb1⟩)
    go_ret
    exact ⟨rfl, hb1⟩
set_option maxHeartbeats 1000000 in
theorem flaw3 (h : Hd) (v : Value) (w : World) (S : Nat) (hb : Blk w S 46 (hdc h v).toArray) (hr : h.commit.length = 32) :
    Calls Tryd.prog 94 #[ptr S] w fun e w' => e = .returned (.bool (flawB h 2)) ∧ Below w.heap.size w w' := by
  have c := (HdBlk.of hb hr).height
  obtain ⟨n, hn⟩ : ∃ n, n = h.height := ⟨_, rfl⟩
  have HE : Hid (flawB h 2 = (decide (n < 1) || decide (1073741824 < n))) := Lib.hid (by rw [hn]; rfl)
  rw [← hn] at c
  rw [HE.out]
  unfold ptr
  clear hb hn HE
  by_cases h1 : n < 1
  · go_enter Tryd.func94, Tryd.ntmps94
    go_wp2_with fail
    go_ret
    exact ⟨by simp [h1], Below.refl _ _⟩
  · have h1' : 1 ≤ n := by omega
    clear h1
    go_enter Tryd.func94, Tryd.ntmps94
    go_wp2_with fail
    go_ret
    exact ⟨by have : ¬ n < 1 := by omega
              simp [this], Below.refl _ _⟩
set_option maxHeartbeats 1000000 in
theorem flaw6 (h : Hd) (v : Value) (w : World) (S : Nat) (hb : Blk w S 46 (hdc h v).toArray) (hr : h.commit.length = 32) :
    Calls Tryd.prog 98 #[ptr S] w fun e w' => e = .returned (.bool (flawB h 5)) ∧ Below w.heap.size w w' := by
  have c := (HdBlk.of hb hr).author
  obtain ⟨n, hn⟩ : ∃ n, n = h.author := ⟨_, rfl⟩
  have HE : Hid (flawB h 5 = (decide (n < 0) || decide (255 < n))) := Lib.hid (by rw [hn]; rfl)
  rw [← hn] at c
  rw [HE.out]
  unfold ptr
  clear hb hn HE
  by_cases h1 : n < 0
  · go_enter Tryd.func98, Tryd.ntmps98
    go_wp2_with fail
    go_ret
    exact ⟨by simp [h1], Below.refl _ _⟩
  · have h1' : 0 ≤ n := by omega
    clear h1
    go_enter Tryd.func98, Tryd.ntmps98
    go_wp2_with fail
    go_ret
    exact ⟨by have : ¬ n < 0 := by omega
              simp [this], Below.refl _ _⟩
set_option maxHeartbeats 1000000 in
theorem flaw7 (h : Hd) (v : Value) (w : World) (S : Nat) (hb : Blk w S 46 (hdc h v).toArray) (hr : h.commit.length = 32) :
    Calls Tryd.prog 99 #[ptr S] w fun e w' => e = .returned (.bool (flawB h 6)) ∧ Below w.heap.size w w' := by
  have c := (HdBlk.of hb hr).seq
  obtain ⟨n, hn⟩ : ∃ n, n = h.seq := ⟨_, rfl⟩
  have HE : Hid (flawB h 6 = (decide (n < 1) || decide (1073741824 < n))) := Lib.hid (by rw [hn]; rfl)
  rw [← hn] at c
  rw [HE.out]
  unfold ptr
  clear hb hn HE
  by_cases h1 : n < 1
  · go_enter Tryd.func99, Tryd.ntmps99
    go_wp2_with fail
    go_ret
    exact ⟨by simp [h1], Below.refl _ _⟩
  · have h1' : 1 ≤ n := by omega
    clear h1
    go_enter Tryd.func99, Tryd.ntmps99
    go_wp2_with fail
    go_ret
    exact ⟨by have : ¬ n < 1 := by omega
              simp [this], Below.refl _ _⟩
set_option maxHeartbeats 1000000 in
theorem flaw8 (h : Hd) (v : Value) (w : World) (S : Nat) (hb : Blk w S 46 (hdc h v).toArray) (hr : h.commit.length = 32) :
    Calls Tryd.prog 100 #[ptr S] w fun e w' => e = .returned (.bool (flawB h 7)) ∧ Below w.heap.size w w' := by
  have c := (HdBlk.of hb hr).size
  obtain ⟨n, hn⟩ : ∃ n, n = h.size := ⟨_, rfl⟩
  have HE : Hid (flawB h 7 = (decide (n < 1) || decide (512 < n))) := Lib.hid (by rw [hn]; rfl)
  rw [← hn] at c
  rw [HE.out]
  unfold ptr
  clear hb hn HE
  by_cases h1 : n < 1
  · go_enter Tryd.func100, Tryd.ntmps100
    go_wp2_with fail
    go_ret
    exact ⟨by simp [h1], Below.refl _ _⟩
  · have h1' : 1 ≤ n := by omega
    clear h1
    go_enter Tryd.func100, Tryd.ntmps100
    go_wp2_with fail
    go_ret
    exact ⟨by have : ¬ n < 1 := by omega
              simp [this], Below.refl _ _⟩
end Go.Proofs.YtmaolmogccknbaaDoor.hdr

namespace Go.Proofs.YtmaolmogccknbaaDoor.sha
open Go.RowKit Go.Proofs.YtmaolmogccknbaaDoor.mem

/-- a Hash's block: made, its words, its block of bytes, how many bytes were written -/
def HBlk (w : World) (g : Nat) (ws : W8) (bl : List UInt8) (n : Int) : Prop :=
  Blk w g 129 (Value.bool true :: (uv (wList ws) ++ (bv bl ++ [.int .i64 n]))).toArray
section
variable {w : World} {g : Nat} {ws : W8} {bl : List UInt8} {n : Int}
theorem HBlk.c0 (h : HBlk w g ws bl n) : w.cell? ⟨g, 0, none⟩ = some (.bool true) := by rw [Blk.cell h]; rfl
theorem HBlk.word (h : HBlk w g ws bl n) (j : Nat) (hj : j < 8) : w.cell? ⟨g, 1 + j, none⟩ = some (.int .u32 (U ((wList ws).getD j 0))) := by
  rw [Blk.cell h, List.getElem?_toArray, Nat.add_comm 1 j, List.getElem?_cons_succ, List.getElem?_append_left (by rw [uv_length]; exact hj)]
  exact uv_get _ _ hj
theorem HBlk.byte (h : HBlk w g ws bl n) (j : Nat) (hj : j < bl.length) : w.cell? ⟨g, 9 + j, none⟩ = some (.int .u8 (B (bl.getD j 0))) := by
  rw [Blk.cell h, List.getElem?_toArray, show 9 + j = (8 + j) + 1 by omega, List.getElem?_cons_succ, List.getElem?_append_right (by rw [uv_length]; exact Nat.le_add_right 8 j), uv_length,
    show 8 + j - (wList ws).length = j from Nat.add_sub_cancel_left 8 j, List.getElem?_append_left (by rw [bv_length]; exact hj)]
  exact bv_get _ _ hj
theorem HBlk.len (h : HBlk w g ws bl n) (hl : bl.length = 64) : w.cell? ⟨g, 73, none⟩ = some (.int .i64 n) := by
  rw [Blk.cell h, List.getElem?_toArray, List.getElem?_cons_succ, List.getElem?_append_right (by rw [uv_length]; exact Nat.le_add_right 8 64), uv_length,
    show 72 - (wList ws).length = 64 from rfl, List.getElem?_append_right (by rw [bv_length, hl]; exact Nat.le_refl _), bv_length, hl]
  rfl
end

/-- the id behind i words -/
def idAcc (ws : W8) (i : Nat) : List UInt8 := (idb ws).take (4 * i) ++ List.replicate (32 - 4 * i) 0
theorem idAcc_end (ws : W8) : idAcc ws 8 = idb ws := rfl
theorem idAcc_len (ws : W8) (i : Nat) (hi : i < 8) : (idAcc ws i).length = 32 := by
  rcases lt8 hi with rfl | rfl | rfl | rfl | rfl | rfl | rfl | rfl <;> rfl
theorem idAcc_set (ws : W8) (i : Nat) (hi : i < 8) (x : UInt32) (hx : x = (wList ws).getD i 0) :
    ((((idAcc ws i).set (4 * i) (x >>> 24).toUInt8).set (4 * i + 1) (x >>> 16).toUInt8).set (4 * i + 2) (x >>> 8).toUInt8).set (4 * i + 3) x.toUInt8 = idAcc ws (i + 1) := by
  subst hx
  rcases lt8 hi with rfl | rfl | rfl | rfl | rfl | rfl | rfl | rfl <;> rfl
theorem U_byte (x : UInt32) : IntKind.u8.wrap (U x) = B x.toUInt8 := by
  rw [IntKind.wrap_u8']
  unfold U B
  rw [UInt32.toNat_toUInt8]
  omega
theorem info24 : (Tryd.prog.info? 23).map (·.size) = some 32 := by kernel_rfl
theorem blk_bset {w : World} {g : Nat} {t : TypeId} {l : List UInt8} (h : Blk w g t (bv l).toArray) (i : Nat) (x : UInt8) : Blk (w.setCell ⟨g, i, none⟩ (.int .u8 (B x))) g t (bv (l.set i x)).toArray := by
  have := h.set_ i (.int .u8 (B x))
  rw [List.setIfInBounds_toArray] at this
  unfold bv at this ⊢
  rw [List.map_set]
  exact this

set_option maxHeartbeats 4000000 in
set_option maxRecDepth 100000 in
theorem id_any (g : Nat) (ws : W8) (bl : List UInt8) (n : Int) (w : World) (h : HBlk w g ws bl n) : Calls Tryd.prog 105 #[.pointer (some ⟨g, 0, none⟩)] w fun e w' =>
    e = .returned (.agg (bv (idb ws)).toArray) ∧ Below w.heap.size w w' := by
  obtain ⟨S, hS⟩ : ∃ g, g = w.heap.size := ⟨_, rfl⟩
  obtain ⟨w3, hw3⟩ : ∃ x, x = ((w.alloc (.cells (bv (List.replicate 32 0)).toArray 23)).alloc (.cells (bv (List.replicate 32 0)).toArray 23)) := ⟨_, rfl⟩
  have hB0 : Below S w w3 := by
    subst hS; subst hw3
    exact ((Below.refl _ _).alloc (Nat.le_refl _) _).alloc (by simp) _
  have hR : Blk w3 w.heap.size 23 (bv (List.replicate 32 0)).toArray := by subst hw3; exact (Blk.new _ _ _).alloc _
  have hI : Blk w3 (w.heap.size + 1) 23 (bv (List.replicate 32 0)).toArray := by subst hw3; exact Blk.at_ (by simp) _ _
  have hH : HBlk w3 g ws bl n := Blk.below h hB0 (hS ▸ Blk.lt h)
  have hg : g < w.heap.size := Blk.lt h
  have c1 : w3.cell? ⟨g, 1, none⟩ = some (.int .u32 (U ws.a)) := hH.word 0 (by decide)
  have c2 : w3.cell? ⟨g, 2, none⟩ = some (.int .u32 (U ws.b)) := hH.word 1 (by decide)
  have c3 : w3.cell? ⟨g, 3, none⟩ = some (.int .u32 (U ws.c)) := hH.word 2 (by decide)
  have c4 : w3.cell? ⟨g, 4, none⟩ = some (.int .u32 (U ws.d)) := hH.word 3 (by decide)
  have c5 : w3.cell? ⟨g, 5, none⟩ = some (.int .u32 (U ws.e)) := hH.word 4 (by decide)
  have c6 : w3.cell? ⟨g, 6, none⟩ = some (.int .u32 (U ws.f)) := hH.word 5 (by decide)
  have c7 : w3.cell? ⟨g, 7, none⟩ = some (.int .u32 (U ws.g)) := hH.word 6 (by decide)
  have c8 : w3.cell? ⟨g, 8, none⟩ = some (.int .u32 (U ws.h)) := hH.word 7 (by decide)
  have HR := Lib.hid hR
  have HI := Lib.hid hI
  have HB := Lib.hid hB0
  have HW := Lib.hid hw3
  clear hR hI hB0 hw3 hH h
  go_enter Tryd.func105, Tryd.ntmps105
  go_upto_region 2 with fail
  refine wp_at HW.out.symm ?_
  clear HW
  go_wp2_with fail
  have HB0 : Hid (Below w.heap.size w w3) := Lib.hid (hS ▸ HB.out)
  clear HB c1 c2 c3 c4 c5 c6 c7 c8 hS
  go_loopw [10] (fun v wr => ∃ i : Nat, i ≤ 8 ∧ v = .int .i64 i ∧ Blk wr w.heap.size 23 (bv (List.replicate 32 0)).toArray ∧ Blk wr (w.heap.size + 1) 23 (bv (idAcc ws i)).toArray ∧ Below w.heap.size w wr) (fun v _ => 8 - (intOf v).toNat)
  case atStart => exact ⟨0, by omega, rfl, HR.out, HI.out, HB0.out⟩
  case round =>
    clear HR HI HB0
    obtain ⟨i, hi, rfl, hR, hI, hB⟩ := hrel
    have HR := Lib.hid hR
    have HI := Lib.hid hI
    have HB := Lib.hid hB
    by_cases hlt : i < 8
    · have f0 := hI.frozen (4 * i)
      have f1 := hI.frozen (4 * i + 1)
      have f2 := hI.frozen (4 * i + 2)
      have f3 := hI.frozen (4 * i + 3)
      have hcc : ∀ j, j < 32 → ∃ v, wr.cell? ⟨w.heap.size + 1, j, none⟩ = some v := fun j hj => by
        rw [hI.cell, List.getElem?_toArray, bv_get _ _ (by rw [idAcc_len _ _ hlt]; exact hj)]
        exact ⟨_, rfl⟩
      obtain ⟨v0, c0⟩ := hcc (4 * i) (by omega)
      obtain ⟨v1, c1⟩ := hcc (4 * i + 1) (by omega)
      obtain ⟨v2, c2⟩ := hcc (4 * i + 2) (by omega)
      obtain ⟨v3, c3⟩ := hcc (4 * i + 3) (by omega)
      have hvi : (uv (wList ws)).toArray[i]? = some (Value.int .u32 (U ((wList ws).getD i 0))) := by rw [List.getElem?_toArray]; exact uv_get _ _ hlt
      have hix := fun u : World => run_index8 #[.int .u32 (U ws.a), .int .u32 (U ws.b), .int .u32 (U ws.c), .int .u32 (U ws.d), .int .u32 (U ws.e), .int .u32 (U ws.f), .int .u32 (U ws.g), .int .u32 (U ws.h)] i _ hvi hlt u
      obtain ⟨x, hx⟩ : ∃ x, x = (wList ws).getD i 0 := ⟨_, rfl⟩
      rw [← hx] at hix
      have HX := Lib.hid hx
      clear hR hI hB hvi hx hcc
      have hlt' : (i : Int) < 8 := by omega
      have i0 : (0 : Int) ≤ (i : Int) := by omega
      have s1 : ∀ x, U x / (16777216 : Int) = U (x >>> 24) := fun x => U_shr 24 x 24 rfl
      have s2 : ∀ x, U x / (65536 : Int) = U (x >>> 16) := fun x => U_shr 16 x 16 rfl
      have s3 : ∀ x, U x / (256 : Int) = U (x >>> 8) := fun x => U_shr 8 x 8 rfl
      have hb := U_byte
      have hn := U_nonneg
      go_wp2_with fail
      go_roundw
      case rel => exact ⟨i + 1, by omega, by push_cast; rfl, ((((HR.out.far (p := ⟨w.heap.size + 1, _, none⟩) (Nat.ne_of_lt (Nat.lt_succ_self _)) _).far (p := ⟨w.heap.size + 1, _, none⟩) (Nat.ne_of_lt (Nat.lt_succ_self _)) _).far (p := ⟨w.heap.size + 1, _, none⟩) (Nat.ne_of_lt (Nat.lt_succ_self _)) _).far (p := ⟨w.heap.size + 1, _, none⟩) (Nat.ne_of_lt (Nat.lt_succ_self _)) _),
        idAcc_set ws i hlt x HX.out ▸ blk_bset (blk_bset (blk_bset (blk_bset HI.out _ _) _ _) _ _) _ _,
        (((HB.out.setCell (Nat.le_succ _) _).setCell (Nat.le_succ _) _).setCell (Nat.le_succ _) _).setCell (Nat.le_succ _) _⟩
      case measure => simp [intOf]; omega
    · obtain rfl : i = 8 := by omega
      clear hR hI hB hlt
      go_upto_region 7 with fail
      refine wp_region_lit ?_
      refine wpList_load_row rfl 23 (.tmp 3) rfl (w.heap.size + 1) rfl 23 _ (0, 0) _ HI.out Tryd.underlying23 rfl (by rw [info24]; rfl) ?_
      refine wpList_store_row rfl 23 (.tmp 2) (.tmp 41) rfl w.heap.size (bv (idAcc ws 8)).toArray rfl (by simp [Act.put, Act.eval]) 23 _ HR.out (by rw [info24]; rfl) rfl ?_ ?_
      · exact one_bv _
      go_wp2_with fail
      (try simp only [Exit.inBlock, Exit.then])
      have hrow := setRow_heap wr w.heap.size _ (bv (idAcc ws 8)).toArray _ _ HR.out
      refine bodyPost_ret (results_cell_row rfl _ _ w.heap.size 23 (bv (idAcc ws 8)).toArray (0, 0) _ rfl hrow Tryd.underlying23 rfl (by rw [info24]; rfl)) rfl ⟨?_, ?_⟩
      · rw [idAcc_end]
      · exact below_setRow HB.out (Nat.le_refl _) _
end Go.Proofs.YtmaolmogccknbaaDoor.sha
