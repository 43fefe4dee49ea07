/-
  The walk of HeaderReads, by what header's functions answer.
  An array of words that is listed as laid: what its places hold.
  Contracts of the turns of a word: math/bits.RotateLeft32, sha.rotr, petrelref02.rotr.
-/
import Derived.Test.YtmaolmogccknbaaDoorHdis
import Derived.Test.YtmaolmogccknbaaDoorStepl
import Derived.Test.YtmaolmogccknbaaDoorSha
import Derived.LaidMore
import Derived.Stop.Joined
namespace Go.Proofs.YtmaolmogccknbaaDoor.hdr
open Go.RowKit Go.Proofs.YtmaolmogccknbaaDoor.mem Go.Proofs.YtmaolmogccknbaaDoor.sha Go.Proofs.YtmaolmogccknbaaDoor.ids
open Go.Proofs.YtmaolmogccknbaaDoor.opn (b1 b2 b4 num txt idl byte rd rdN rdT rdI rdS rdL St Reads Stays endE zid mkId)

theorem zh_check : checkH zhd = 12 := by decide +kernel
set_option maxHeartbeats 2000000 in
set_option maxRecDepth 100000 in
theorem reads_walk {T : World → Prop} (hI : HdIs T) (s : ByteArray) (w : World) (hT : T w) (hs : s.size ≤ 140737488351232) :
    Calls Tryd.prog 8 #[.string s] w fun e w' => e = .returned (.bool true) ∧ Below w.heap.size w w' := by
  have HI := Lib.hid hI
  have HT := Lib.hid hT
  by_cases hbig : 2000 < s.size
  · have i1 : (2000 : Int) < (s.size : Int) := by omega
    have hck := hI.check zhd nv w hT zcom (nv_rd w) (by decide) (by decide)
    rw [zh_check] at hck
    have HCK := Lib.hid hck
    clear hbig hI hT hck
    go_enter Tryd.func8, Tryd.ntmps8
    go_wp2_with (first
      | (go_at_call 27; refine HCK.out.mono ?_; rintro e w1 ⟨rfl, hb1⟩)
      | (go_at_call 22; refine (awake_any HI.out _ (HI.out.next HT.out hb1)).mono ?_; rintro e w2 ⟨rfl, hb2⟩))
    go_ret
    exact ⟨rfl, hb1.trans (hb2.mono hb1.size)⟩
  clear hI hT
  have i1 : (s.size : Int) ≤ 2000 := by omega
  have HS := Lib.hid hbig
  have hq := (of_parts s.data.toList).1
  have HO := HI.out.of s w HT.out (by omega)
  have HRO := fun u => of_any s u (by omega)
  obtain ⟨q, hqq⟩ : ∃ q, q = (ofH s.data.toList).1 := ⟨_, rfl⟩
  obtain ⟨er, her⟩ : ∃ er, er = (ofH s.data.toList).2 := ⟨_, rfl⟩
  rw [← hqq] at hq
  rw [← hqq, ← her] at HO
  simp only [← hqq, ← her] at HRO
  have HQ := Lib.hid hq
  have HO := Lib.hid HO
  have HRO := Lib.hid HRO
  clear hbig hq hqq her
  go_enter Tryd.func8, Tryd.ntmps8
  go_wp2_with (first
    | (go_at_call 31; (with_reducible refine HO.out.mono ?_); rintro e w2 ⟨v, rfl, hrd2, hb2⟩; have hh2 := run_hold w2 q v HQ.out (rdv_one hrd2); have hk2 := held_blk w2 q v; have hbb2 := held_below w2 q v; obtain ⟨wh2, hwh2⟩ : ∃ wx, wx = heldW w2 q v := ⟨_, rfl⟩; rw [← hwh2] at hh2 hk2 hbb2; clear hwh2)
    | ((with_reducible refine step_store_run (t := 46) (x := .tmp 3) (y := .tmp 19) (p := ?spa) (v := ?sva) (w' := ?swa) ?sga ?soa ?sxa ?sya ?sra ?sha); (case sga => rfl); (case soa => rfl); (case sxa => rfl); (case sya => rfl); (case sra => exact hh2))
    | (go_at_call 32; (with_reducible refine (HRO.out _).mono ?_); rintro e w4 ⟨v4, rfl, hrd4, hb4⟩; have hh4 := run_hold w4 q v4 HQ.out (rdv_one hrd4); have hk4 := held_blk w4 q v4; have hbb4 := held_below w4 q v4; obtain ⟨wh4, hwh4⟩ : ∃ wx, wx = heldW w4 q v4 := ⟨_, rfl⟩; rw [← hwh4] at hh4 hk4 hbb4; clear hwh4; have b35 := hb4.trans (hbb4.mono hb4.size); have b25 := hbb2.trans (b35.mono hbb2.size); have hA := hk2.below b35 hk2.lt; have hlA := run_load_hd hA HQ.out; have hlB := run_load_hd hk4 HQ.out; have hsm := same_any q q v v4 wh4 HQ.out HQ.out (hrd2.next b25) (hrd4.next hbb4); rw [sameH_refl] at hsm; have HSM := Lib.hid hsm; have HB5 := Lib.hid (hb2.trans (b25.mono hb2.size)); clear hk2 hbb2 hk4 hbb4 hrd2 hrd4 b35 b25 hA hsm hb2 hb4)
    | ((with_reducible refine step_store_run (t := 46) (x := .tmp 5) (y := .tmp 24) (p := ?spb) (v := ?svb) (w' := ?swb) ?sgb ?sob ?sxb ?syb ?srb ?shb); (case sgb => rfl); (case sob => rfl); (case sxb => rfl); (case syb => rfl); (case srb => exact hh4))
    | ((with_reducible refine step_load_w (t := 46) (x := .tmp 3) (p := ?lpla) (v := ?lvla) ?lgla ?lola ?lxla ?lrla ?lhla); (case lola => rfl); (case lgla => rfl); (case lxla => rfl); (case lrla => exact hlA))
    | ((with_reducible refine step_load_w (t := 46) (x := .tmp 5) (p := ?lplb) (v := ?lvlb) ?lglb ?lolb ?lxlb ?lrlb ?lhlb); (case lolb => rfl); (case lglb => rfl); (case lxlb => rfl); (case lrlb => exact hlB))
    | (go_at_call 30; (with_reducible refine HSM.out.mono ?_); rintro e w6 ⟨rfl, hb6⟩; have b06 := HB5.out.trans (hb6.mono HB5.out.size))
    | (go_at_call 22; refine (awake_any HI.out _ (HI.out.next HT.out b06)).mono ?_; rintro e w7 ⟨rfl, hb7⟩))
  go_ret
  exact ⟨rfl, b06.trans (hb7.mono b06.size)⟩
end Go.Proofs.YtmaolmogccknbaaDoor.hdr

namespace Go.Proofs.YtmaolmogccknbaaDoor.kit
open Go.ChangeShapes Go.WideShapes Go.ChangeAt Go.RowKit Go.Proofs.YtmaolmogccknbaaDoor.sha

/-- what a number of 32 bits and one of 16 are -/
theorem word_of {a : Int} (h : Lit.wf (.int .u32 a)) : ∃ c : UInt32, a = U c := by
  have hb : 0 ≤ a ∧ a ≤ 4294967295 := by simpa [Lit.wf, IntKind.min, IntKind.max, IntKind.signed, IntKind.bits] using h
  refine ⟨UInt32.ofNat a.toNat, ?_⟩
  unfold U
  rw [UInt32.toNat_ofNat_of_lt' (by show a.toNat < 4294967296; omega)]
  omega
theorem words_of_trod {H : Type} {enc : TypeId × Value → H} {w : World} {base : Nat} {sp : Nat → Bool} {held : Bool} {fuel n : Nat} {t : TypeId} {p : List MemPlace} (L : List UInt32) (ht : Tryd.prog.underlying t = some (.array n 119)) (cs : List Value)
    (h : DataW.trod enc Tryd.prog w base sp held fuel t cs = some (.agg (L.map fun x => DataW.lit (.int .u32 (U x))), p)) (j : Nat) (hj : j < n) (hL : L.length = n) : cs[j]? = some (.int .u32 (U (L.getD j 0))) := by
  obtain ⟨xs, m1, rfl, hx1, hlen, hn, hel⟩ := DataW.trod_array ht h
  have c1 : Tryd.prog.cellsOf 119 = 1 := by kernel_rfl
  simp only [Prod.mk.injEq, DataW.agg.injEq] at hx1
  have hj2 := hel j hj
  rw [c1, Nat.mul_one] at hj2
  have hxj : xs[j]? = some (xs[j]'(by omega)) := List.getElem?_eq_getElem (by omega)
  rw [hxj] at hj2
  obtain ⟨k, e1, e2, _⟩ := DataW.trod_int Tryd.underlying119 hj2
  have hk : (xs.map (·.1))[j]? = some (.lit (.int .u32 k)) := by rw [List.getElem?_map, hxj]; simp [e2]
  have hLj : L[j]? = some (L[j]'(by rw [hL]; exact hj)) := List.getElem?_eq_getElem (by rw [hL]; exact hj)
  rw [← hx1.1, List.getElem?_map, hLj] at hk
  have hkU : U (L[j]'(by rw [hL]; exact hj)) = k := by simpa using hk
  rw [List.getD_eq_getElem?_getD, hLj, Option.getD_some, hkU]
  have := congrArg (fun l : List Value => l[0]?) e1
  simpa [List.getElem?_take, List.getElem?_drop] using this
end Go.Proofs.YtmaolmogccknbaaDoor.kit

namespace Go.Proofs.YtmaolmogccknbaaDoor.sha
open Go.RowKit

theorem rotl_2 (x : UInt32) (w : World) : Calls Tryd.prog 118 #[.int .u32 (U x), .int .i64 (-2)] w fun e w' => e = .returned (.int .u32 (U (rr 2 30 x))) ∧ w = w' := by
  have h1 : U x * (1073741824 : Int) % (4294967296 : Int) = U (x <<< 30) := U_shl 30 x 30 rfl
  have h2 : U x / (4 : Int) = U (x >>> 2) := U_shr 2 x 2 rfl
  have h3 := U_or
  have h0 := U_nonneg
  have hb : bits .and .u64 (IntKind.u64.wrap (-2)) 31 = 30 := by decide
  go_enter Tryd.func118, Tryd.ntmps118
  go_wp2
  go_ret
  exact ⟨by rw [or_comm32]; rfl, rfl⟩
theorem rotr_2 (x : UInt32) (w : World) : Calls Tryd.prog 112 #[.int .u32 (U x), .int .i64 2] w fun e w' => e = .returned (.int .u32 (U (rr 2 30 x))) ∧ w = w' := by
  go_enter Tryd.func112, Tryd.ntmps112
  go_wp2_with (go_at_call 118; refine (rotl_2 _ _).mono ?_; rintro e w' ⟨rfl, rfl⟩)
  go_ret
  exact ⟨rfl, rfl⟩
theorem rrotr_2 (x : UInt32) (w : World) : Calls Tryd.prog 110 #[.int .u32 (U x), .int .i64 2] w fun e w' => e = .returned (.int .u32 (U (rr 2 30 x))) ∧ w = w' := by
  have h1 : U x * (1073741824 : Int) % (4294967296 : Int) = U (x <<< 30) := U_shl 30 x 30 rfl
  have h2 : U x / (4 : Int) = U (x >>> 2) := U_shr 2 x 2 rfl
  have h3 := U_or
  have h0 := U_nonneg
  go_enter Tryd.func110, Tryd.ntmps110
  go_wp2
  go_ret
  exact ⟨rfl, rfl⟩

theorem rotl_6 (x : UInt32) (w : World) : Calls Tryd.prog 118 #[.int .u32 (U x), .int .i64 (-6)] w fun e w' => e = .returned (.int .u32 (U (rr 6 26 x))) ∧ w = w' := by
  have h1 : U x * (67108864 : Int) % (4294967296 : Int) = U (x <<< 26) := U_shl 26 x 26 rfl
  have h2 : U x / (64 : Int) = U (x >>> 6) := U_shr 6 x 6 rfl
  have h3 := U_or
  have h0 := U_nonneg
  have hb : bits .and .u64 (IntKind.u64.wrap (-6)) 31 = 26 := by decide
  go_enter Tryd.func118, Tryd.ntmps118
  go_wp2
  go_ret
  exact ⟨by rw [or_comm32]; rfl, rfl⟩
theorem rotr_6 (x : UInt32) (w : World) : Calls Tryd.prog 112 #[.int .u32 (U x), .int .i64 6] w fun e w' => e = .returned (.int .u32 (U (rr 6 26 x))) ∧ w = w' := by
  go_enter Tryd.func112, Tryd.ntmps112
  go_wp2_with (go_at_call 118; refine (rotl_6 _ _).mono ?_; rintro e w' ⟨rfl, rfl⟩)
  go_ret
  exact ⟨rfl, rfl⟩
theorem rrotr_6 (x : UInt32) (w : World) : Calls Tryd.prog 110 #[.int .u32 (U x), .int .i64 6] w fun e w' => e = .returned (.int .u32 (U (rr 6 26 x))) ∧ w = w' := by
  have h1 : U x * (67108864 : Int) % (4294967296 : Int) = U (x <<< 26) := U_shl 26 x 26 rfl
  have h2 : U x / (64 : Int) = U (x >>> 6) := U_shr 6 x 6 rfl
  have h3 := U_or
  have h0 := U_nonneg
  go_enter Tryd.func110, Tryd.ntmps110
  go_wp2
  go_ret
  exact ⟨rfl, rfl⟩

theorem rotl_7 (x : UInt32) (w : World) : Calls Tryd.prog 118 #[.int .u32 (U x), .int .i64 (-7)] w fun e w' => e = .returned (.int .u32 (U (rr 7 25 x))) ∧ w = w' := by
  have h1 : U x * (33554432 : Int) % (4294967296 : Int) = U (x <<< 25) := U_shl 25 x 25 rfl
  have h2 : U x / (128 : Int) = U (x >>> 7) := U_shr 7 x 7 rfl
  have h3 := U_or
  have h0 := U_nonneg
  have hb : bits .and .u64 (IntKind.u64.wrap (-7)) 31 = 25 := by decide
  go_enter Tryd.func118, Tryd.ntmps118
  go_wp2
  go_ret
  exact ⟨by rw [or_comm32]; rfl, rfl⟩
theorem rotr_7 (x : UInt32) (w : World) : Calls Tryd.prog 112 #[.int .u32 (U x), .int .i64 7] w fun e w' => e = .returned (.int .u32 (U (rr 7 25 x))) ∧ w = w' := by
  go_enter Tryd.func112, Tryd.ntmps112
  go_wp2_with (go_at_call 118; refine (rotl_7 _ _).mono ?_; rintro e w' ⟨rfl, rfl⟩)
  go_ret
  exact ⟨rfl, rfl⟩
theorem rrotr_7 (x : UInt32) (w : World) : Calls Tryd.prog 110 #[.int .u32 (U x), .int .i64 7] w fun e w' => e = .returned (.int .u32 (U (rr 7 25 x))) ∧ w = w' := by
  have h1 : U x * (33554432 : Int) % (4294967296 : Int) = U (x <<< 25) := U_shl 25 x 25 rfl
  have h2 : U x / (128 : Int) = U (x >>> 7) := U_shr 7 x 7 rfl
  have h3 := U_or
  have h0 := U_nonneg
  go_enter Tryd.func110, Tryd.ntmps110
  go_wp2
  go_ret
  exact ⟨rfl, rfl⟩

theorem rotl_11 (x : UInt32) (w : World) : Calls Tryd.prog 118 #[.int .u32 (U x), .int .i64 (-11)] w fun e w' => e = .returned (.int .u32 (U (rr 11 21 x))) ∧ w = w' := by
  have h1 : U x * (2097152 : Int) % (4294967296 : Int) = U (x <<< 21) := U_shl 21 x 21 rfl
  have h2 : U x / (2048 : Int) = U (x >>> 11) := U_shr 11 x 11 rfl
  have h3 := U_or
  have h0 := U_nonneg
  have hb : bits .and .u64 (IntKind.u64.wrap (-11)) 31 = 21 := by decide
  go_enter Tryd.func118, Tryd.ntmps118
  go_wp2
  go_ret
  exact ⟨by rw [or_comm32]; rfl, rfl⟩
theorem rotr_11 (x : UInt32) (w : World) : Calls Tryd.prog 112 #[.int .u32 (U x), .int .i64 11] w fun e w' => e = .returned (.int .u32 (U (rr 11 21 x))) ∧ w = w' := by
  go_enter Tryd.func112, Tryd.ntmps112
  go_wp2_with (go_at_call 118; refine (rotl_11 _ _).mono ?_; rintro e w' ⟨rfl, rfl⟩)
  go_ret
  exact ⟨rfl, rfl⟩
theorem rrotr_11 (x : UInt32) (w : World) : Calls Tryd.prog 110 #[.int .u32 (U x), .int .i64 11] w fun e w' => e = .returned (.int .u32 (U (rr 11 21 x))) ∧ w = w' := by
  have h1 : U x * (2097152 : Int) % (4294967296 : Int) = U (x <<< 21) := U_shl 21 x 21 rfl
  have h2 : U x / (2048 : Int) = U (x >>> 11) := U_shr 11 x 11 rfl
  have h3 := U_or
  have h0 := U_nonneg
  go_enter Tryd.func110, Tryd.ntmps110
  go_wp2
  go_ret
  exact ⟨rfl, rfl⟩

theorem rotl_13 (x : UInt32) (w : World) : Calls Tryd.prog 118 #[.int .u32 (U x), .int .i64 (-13)] w fun e w' => e = .returned (.int .u32 (U (rr 13 19 x))) ∧ w = w' := by
  have h1 : U x * (524288 : Int) % (4294967296 : Int) = U (x <<< 19) := U_shl 19 x 19 rfl
  have h2 : U x / (8192 : Int) = U (x >>> 13) := U_shr 13 x 13 rfl
  have h3 := U_or
  have h0 := U_nonneg
  have hb : bits .and .u64 (IntKind.u64.wrap (-13)) 31 = 19 := by decide
  go_enter Tryd.func118, Tryd.ntmps118
  go_wp2
  go_ret
  exact ⟨by rw [or_comm32]; rfl, rfl⟩
theorem rotr_13 (x : UInt32) (w : World) : Calls Tryd.prog 112 #[.int .u32 (U x), .int .i64 13] w fun e w' => e = .returned (.int .u32 (U (rr 13 19 x))) ∧ w = w' := by
  go_enter Tryd.func112, Tryd.ntmps112
  go_wp2_with (go_at_call 118; refine (rotl_13 _ _).mono ?_; rintro e w' ⟨rfl, rfl⟩)
  go_ret
  exact ⟨rfl, rfl⟩
theorem rrotr_13 (x : UInt32) (w : World) : Calls Tryd.prog 110 #[.int .u32 (U x), .int .i64 13] w fun e w' => e = .returned (.int .u32 (U (rr 13 19 x))) ∧ w = w' := by
  have h1 : U x * (524288 : Int) % (4294967296 : Int) = U (x <<< 19) := U_shl 19 x 19 rfl
  have h2 : U x / (8192 : Int) = U (x >>> 13) := U_shr 13 x 13 rfl
  have h3 := U_or
  have h0 := U_nonneg
  go_enter Tryd.func110, Tryd.ntmps110
  go_wp2
  go_ret
  exact ⟨rfl, rfl⟩

theorem rotl_17 (x : UInt32) (w : World) : Calls Tryd.prog 118 #[.int .u32 (U x), .int .i64 (-17)] w fun e w' => e = .returned (.int .u32 (U (rr 17 15 x))) ∧ w = w' := by
  have h1 : U x * (32768 : Int) % (4294967296 : Int) = U (x <<< 15) := U_shl 15 x 15 rfl
  have h2 : U x / (131072 : Int) = U (x >>> 17) := U_shr 17 x 17 rfl
  have h3 := U_or
  have h0 := U_nonneg
  have hb : bits .and .u64 (IntKind.u64.wrap (-17)) 31 = 15 := by decide
  go_enter Tryd.func118, Tryd.ntmps118
  go_wp2
  go_ret
  exact ⟨by rw [or_comm32]; rfl, rfl⟩
theorem rotr_17 (x : UInt32) (w : World) : Calls Tryd.prog 112 #[.int .u32 (U x), .int .i64 17] w fun e w' => e = .returned (.int .u32 (U (rr 17 15 x))) ∧ w = w' := by
  go_enter Tryd.func112, Tryd.ntmps112
  go_wp2_with (go_at_call 118; refine (rotl_17 _ _).mono ?_; rintro e w' ⟨rfl, rfl⟩)
  go_ret
  exact ⟨rfl, rfl⟩
theorem rrotr_17 (x : UInt32) (w : World) : Calls Tryd.prog 110 #[.int .u32 (U x), .int .i64 17] w fun e w' => e = .returned (.int .u32 (U (rr 17 15 x))) ∧ w = w' := by
  have h1 : U x * (32768 : Int) % (4294967296 : Int) = U (x <<< 15) := U_shl 15 x 15 rfl
  have h2 : U x / (131072 : Int) = U (x >>> 17) := U_shr 17 x 17 rfl
  have h3 := U_or
  have h0 := U_nonneg
  go_enter Tryd.func110, Tryd.ntmps110
  go_wp2
  go_ret
  exact ⟨rfl, rfl⟩

theorem rotl_18 (x : UInt32) (w : World) : Calls Tryd.prog 118 #[.int .u32 (U x), .int .i64 (-18)] w fun e w' => e = .returned (.int .u32 (U (rr 18 14 x))) ∧ w = w' := by
  have h1 : U x * (16384 : Int) % (4294967296 : Int) = U (x <<< 14) := U_shl 14 x 14 rfl
  have h2 : U x / (262144 : Int) = U (x >>> 18) := U_shr 18 x 18 rfl
  have h3 := U_or
  have h0 := U_nonneg
  have hb : bits .and .u64 (IntKind.u64.wrap (-18)) 31 = 14 := by decide
  go_enter Tryd.func118, Tryd.ntmps118
  go_wp2
  go_ret
  exact ⟨by rw [or_comm32]; rfl, rfl⟩
theorem rotr_18 (x : UInt32) (w : World) : Calls Tryd.prog 112 #[.int .u32 (U x), .int .i64 18] w fun e w' => e = .returned (.int .u32 (U (rr 18 14 x))) ∧ w = w' := by
  go_enter Tryd.func112, Tryd.ntmps112
  go_wp2_with (go_at_call 118; refine (rotl_18 _ _).mono ?_; rintro e w' ⟨rfl, rfl⟩)
  go_ret
  exact ⟨rfl, rfl⟩
theorem rrotr_18 (x : UInt32) (w : World) : Calls Tryd.prog 110 #[.int .u32 (U x), .int .i64 18] w fun e w' => e = .returned (.int .u32 (U (rr 18 14 x))) ∧ w = w' := by
  have h1 : U x * (16384 : Int) % (4294967296 : Int) = U (x <<< 14) := U_shl 14 x 14 rfl
  have h2 : U x / (262144 : Int) = U (x >>> 18) := U_shr 18 x 18 rfl
  have h3 := U_or
  have h0 := U_nonneg
  go_enter Tryd.func110, Tryd.ntmps110
  go_wp2
  go_ret
  exact ⟨rfl, rfl⟩

theorem rotl_19 (x : UInt32) (w : World) : Calls Tryd.prog 118 #[.int .u32 (U x), .int .i64 (-19)] w fun e w' => e = .returned (.int .u32 (U (rr 19 13 x))) ∧ w = w' := by
  have h1 : U x * (8192 : Int) % (4294967296 : Int) = U (x <<< 13) := U_shl 13 x 13 rfl
  have h2 : U x / (524288 : Int) = U (x >>> 19) := U_shr 19 x 19 rfl
  have h3 := U_or
  have h0 := U_nonneg
  have hb : bits .and .u64 (IntKind.u64.wrap (-19)) 31 = 13 := by decide
  go_enter Tryd.func118, Tryd.ntmps118
  go_wp2
  go_ret
  exact ⟨by rw [or_comm32]; rfl, rfl⟩
theorem rotr_19 (x : UInt32) (w : World) : Calls Tryd.prog 112 #[.int .u32 (U x), .int .i64 19] w fun e w' => e = .returned (.int .u32 (U (rr 19 13 x))) ∧ w = w' := by
  go_enter Tryd.func112, Tryd.ntmps112
  go_wp2_with (go_at_call 118; refine (rotl_19 _ _).mono ?_; rintro e w' ⟨rfl, rfl⟩)
  go_ret
  exact ⟨rfl, rfl⟩
theorem rrotr_19 (x : UInt32) (w : World) : Calls Tryd.prog 110 #[.int .u32 (U x), .int .i64 19] w fun e w' => e = .returned (.int .u32 (U (rr 19 13 x))) ∧ w = w' := by
  have h1 : U x * (8192 : Int) % (4294967296 : Int) = U (x <<< 13) := U_shl 13 x 13 rfl
  have h2 : U x / (524288 : Int) = U (x >>> 19) := U_shr 19 x 19 rfl
  have h3 := U_or
  have h0 := U_nonneg
  go_enter Tryd.func110, Tryd.ntmps110
  go_wp2
  go_ret
  exact ⟨rfl, rfl⟩

theorem rotl_22 (x : UInt32) (w : World) : Calls Tryd.prog 118 #[.int .u32 (U x), .int .i64 (-22)] w fun e w' => e = .returned (.int .u32 (U (rr 22 10 x))) ∧ w = w' := by
  have h1 : U x * (1024 : Int) % (4294967296 : Int) = U (x <<< 10) := U_shl 10 x 10 rfl
  have h2 : U x / (4194304 : Int) = U (x >>> 22) := U_shr 22 x 22 rfl
  have h3 := U_or
  have h0 := U_nonneg
  have hb : bits .and .u64 (IntKind.u64.wrap (-22)) 31 = 10 := by decide
  go_enter Tryd.func118, Tryd.ntmps118
  go_wp2
  go_ret
  exact ⟨by rw [or_comm32]; rfl, rfl⟩
theorem rotr_22 (x : UInt32) (w : World) : Calls Tryd.prog 112 #[.int .u32 (U x), .int .i64 22] w fun e w' => e = .returned (.int .u32 (U (rr 22 10 x))) ∧ w = w' := by
  go_enter Tryd.func112, Tryd.ntmps112
  go_wp2_with (go_at_call 118; refine (rotl_22 _ _).mono ?_; rintro e w' ⟨rfl, rfl⟩)
  go_ret
  exact ⟨rfl, rfl⟩
theorem rrotr_22 (x : UInt32) (w : World) : Calls Tryd.prog 110 #[.int .u32 (U x), .int .i64 22] w fun e w' => e = .returned (.int .u32 (U (rr 22 10 x))) ∧ w = w' := by
  have h1 : U x * (1024 : Int) % (4294967296 : Int) = U (x <<< 10) := U_shl 10 x 10 rfl
  have h2 : U x / (4194304 : Int) = U (x >>> 22) := U_shr 22 x 22 rfl
  have h3 := U_or
  have h0 := U_nonneg
  go_enter Tryd.func110, Tryd.ntmps110
  go_wp2
  go_ret
  exact ⟨rfl, rfl⟩

theorem rotl_25 (x : UInt32) (w : World) : Calls Tryd.prog 118 #[.int .u32 (U x), .int .i64 (-25)] w fun e w' => e = .returned (.int .u32 (U (rr 25 7 x))) ∧ w = w' := by
  have h1 : U x * (128 : Int) % (4294967296 : Int) = U (x <<< 7) := U_shl 7 x 7 rfl
  have h2 : U x / (33554432 : Int) = U (x >>> 25) := U_shr 25 x 25 rfl
  have h3 := U_or
  have h0 := U_nonneg
  have hb : bits .and .u64 (IntKind.u64.wrap (-25)) 31 = 7 := by decide
  go_enter Tryd.func118, Tryd.ntmps118
  go_wp2
  go_ret
  exact ⟨by rw [or_comm32]; rfl, rfl⟩
theorem rotr_25 (x : UInt32) (w : World) : Calls Tryd.prog 112 #[.int .u32 (U x), .int .i64 25] w fun e w' => e = .returned (.int .u32 (U (rr 25 7 x))) ∧ w = w' := by
  go_enter Tryd.func112, Tryd.ntmps112
  go_wp2_with (go_at_call 118; refine (rotl_25 _ _).mono ?_; rintro e w' ⟨rfl, rfl⟩)
  go_ret
  exact ⟨rfl, rfl⟩
theorem rrotr_25 (x : UInt32) (w : World) : Calls Tryd.prog 110 #[.int .u32 (U x), .int .i64 25] w fun e w' => e = .returned (.int .u32 (U (rr 25 7 x))) ∧ w = w' := by
  have h1 : U x * (128 : Int) % (4294967296 : Int) = U (x <<< 7) := U_shl 7 x 7 rfl
  have h2 : U x / (33554432 : Int) = U (x >>> 25) := U_shr 25 x 25 rfl
  have h3 := U_or
  have h0 := U_nonneg
  go_enter Tryd.func110, Tryd.ntmps110
  go_wp2
  go_ret
  exact ⟨rfl, rfl⟩


/-- x turned by n -/
def rot (n : Int) (x : UInt32) : UInt32 := rr (UInt32.ofNat n.toNat) (UInt32.ofNat (32 - n.toNat)) x
theorem rotr_any (n : Int) (x : UInt32) (w : World) (h : n ∈ [2, 6, 7, 11, 13, 17, 18, 19, 22, 25]) : Calls Tryd.prog 112 #[.int .u32 (U x), .int .i64 n] w fun e w' => e = .returned (.int .u32 (U (rot n x))) ∧ w = w' := by
  simp only [List.mem_cons, List.not_mem_nil, or_false] at h
  rcases h with rfl | rfl | rfl | rfl | rfl | rfl | rfl | rfl | rfl | rfl
  · exact rotr_2 x w
  · exact rotr_6 x w
  · exact rotr_7 x w
  · exact rotr_11 x w
  · exact rotr_13 x w
  · exact rotr_17 x w
  · exact rotr_18 x w
  · exact rotr_19 x w
  · exact rotr_22 x w
  · exact rotr_25 x w
theorem rrotr_any (n : Int) (x : UInt32) (w : World) (h : n ∈ [2, 6, 7, 11, 13, 17, 18, 19, 22, 25]) : Calls Tryd.prog 110 #[.int .u32 (U x), .int .i64 n] w fun e w' => e = .returned (.int .u32 (U (rot n x))) ∧ w = w' := by
  simp only [List.mem_cons, List.not_mem_nil, or_false] at h
  rcases h with rfl | rfl | rfl | rfl | rfl | rfl | rfl | rfl | rfl | rfl
  · exact rrotr_2 x w
  · exact rrotr_6 x w
  · exact rrotr_7 x w
  · exact rrotr_11 x w
  · exact rrotr_13 x w
  · exact rrotr_17 x w
  · exact rrotr_18 x w
  · exact rrotr_19 x w
  · exact rrotr_22 x w
  · exact rrotr_25 x w
end Go.Proofs.YtmaolmogccknbaaDoor.sha
