/-
  The library's medians and its choice of a pivot over a row of ids.
-/
import Derived.Test.YtkfhlnpbklchmaaSrt
import Derived.Test.YtkfhlnpbklchmaaSrtv
namespace Go.Proofs.Ytkfhlnpbklchmaa.srt
open Go.RowKit Go.Proofs.Ytkfhlnpbklchmaa.mem Go.Proofs.Ytkfhlnpbklchmaa.sha Go.Proofs.Ytkfhlnpbklchmaa.ids Go.Sort
set_option maxHeartbeats 2000000 in
set_option maxRecDepth 100000 in
theorem order2_c {V H : Value} {blk off n : Nat} (E : Env V H blk off n) (d : Array I32) (w : World) (a b S : Nat) (hs : St blk off n d w) (ha : a < n) (hb : b < n) (hc : Cnt blk S w) :
    Calls Try.prog 69 #[dat V H, .int .i64 a, .int .i64 b, .pointer (some ⟨S, 0, none⟩)] w fun e w' => ∃ p q : Nat, e = .returned (.tuple #[.int .i64 p, .int .i64 q]) ∧ Hid (p = a ∧ q = b ∨ p = b ∧ q = a) ∧ Hid (Tq blk S w w') ∧ Hid (Cnt blk S w') :=
  (order2_any E d w a b S hs ha hb hc).mono fun _ _ ⟨he, hq, hc⟩ => he.elim (fun h => ⟨a, b, h, Lib.hid (.inl ⟨rfl, rfl⟩), Lib.hid hq, Lib.hid hc⟩) (fun h => ⟨b, a, h, Lib.hid (.inr ⟨rfl, rfl⟩), Lib.hid hq, Lib.hid hc⟩)

set_option maxHeartbeats 2000000 in
set_option maxRecDepth 100000 in
theorem median_any {V H : Value} {blk off n : Nat} (E : Env V H blk off n) (d : Array I32) (w : World) (a b c S : Nat) (hs : St blk off n d w) (ha : a < n) (hb : b < n) (hcn : c < n) (hc : Cnt blk S w) :
    Calls Try.prog 67 #[dat V H, .int .i64 a, .int .i64 b, .int .i64 c, .pointer (some ⟨S, 0, none⟩)] w fun e w' => ∃ m : Nat, e = .returned (.int .i64 m) ∧ Hid (m = a ∨ m = b ∨ m = c) ∧ Hid (Tq blk S w w') ∧ Hid (Cnt blk S w') := by
  have HE := Lib.hid E
  have HC0 := Lib.hid (hc.below ((RowKit.Below.refl _ w).alloc (Nat.le_refl _) (datObj V H)))
  have HQ0 := Lib.hid (Tq.ofNew (blk := blk) (S := S) ((RowKit.Below.refl _ w).alloc (Nat.le_refl _) (datObj V H)))
  have HBS := Lib.hid (show w.heap.size ≠ S from fun e => by have := hc.lt; omega)
  have HS0 := Lib.hid (hs.boxed (V := V) (H := H))
  have HB0 := Lib.hid (Bx.new (V := V) (H := H) hs)
  have HNE := Lib.hid hc.ne
  unfold datObj at HC0 HQ0 HS0 HB0
  unfold dat
  clear E hs hc
  go_enter Try.func67, Try.ntmps67
  have HL1 := Lib.hid (order2_c HE.out d _ a b S HS0.out (by omega) (by omega) HC0.out); unfold dat at HL1
  go_wp2_with (first
    | (go_at_call 69; (with_reducible refine HL3.out.mono ?_); rintro e w4 ⟨p3, q3, rfl, H3, HQn, HCn⟩; have HC3 := HCn; have HQ3 := Lib.hid (HQ2.out.trans HQn.out); clear HCn HQn HL3)
    | (go_at_call 69; (with_reducible refine HL2.out.mono ?_); rintro e w3 ⟨p2, q2, rfl, H2, HQn, HCn⟩; have HQ2 := Lib.hid (HQ1.out.trans HQn.out); have HB2 := Lib.hid (HQn.out.bx HB1.out HBS.out); have c20 := HB2.out.less; have c21 := HB2.out.swap; have HSt2 := Lib.hid (HQn.out.st HSt1.out HNE.out); have hb3 : p1 < n := (by have h1 := H1.out; omega); have hb4 : p2 < n := (by have h1 := H1.out; have h2 := H2.out; omega); have HL3 := Lib.hid (order2_c HE.out d _ p1 p2 S HSt2.out (by omega) (by omega) HCn.out); unfold dat at HL3; clear HCn HQn HL2)
    | (go_at_call 69; (with_reducible refine HL1.out.mono ?_); rintro e w2 ⟨p1, q1, rfl, H1, HQn, HCn⟩; have HQ1 := Lib.hid (HQ0.out.trans HQn.out); have HB1 := Lib.hid (HQn.out.bx HB0.out HBS.out); have c10 := HB1.out.less; have c11 := HB1.out.swap; have HSt1 := Lib.hid (HQn.out.st HS0.out HNE.out); have hb2 : q1 < n := (by have h1 := H1.out; omega); have HL2 := Lib.hid (order2_c HE.out d _ q1 c S HSt1.out (by omega) (by omega) HCn.out); unfold dat at HL2; clear HCn HQn HL1))
  go_ret
  refine ⟨q3, rfl, Lib.hid ?_, HQ3, HC3⟩
  have h1 := H1.out
  have h2 := H2.out
  have h3 := H3.out
  omega
set_option maxHeartbeats 2000000 in
set_option maxRecDepth 100000 in
theorem medadj_any {V H : Value} {blk off n : Nat} (E : Env V H blk off n) (d : Array I32) (w : World) (a S : Nat) (hs : St blk off n d w) (ha : 1 ≤ a) (hb : a + 1 < n) (hn : n ≤ 1000000000) (hc : Cnt blk S w) :
    Calls Try.prog 66 #[dat V H, .int .i64 a, .pointer (some ⟨S, 0, none⟩)] w fun e w' => ∃ m : Nat, e = .returned (.int .i64 m) ∧ Hid (a ≤ m + 1 ∧ m ≤ a + 1) ∧ Hid (Tq blk S w w') ∧ Hid (Cnt blk S w') := by
  have HE := Lib.hid E
  have HC0 := Lib.hid (hc.below ((RowKit.Below.refl _ w).alloc (Nat.le_refl _) (datObj V H)))
  have HQ0 := Lib.hid (Tq.ofNew (blk := blk) (S := S) ((RowKit.Below.refl _ w).alloc (Nat.le_refl _) (datObj V H)))
  have HBS := Lib.hid (show w.heap.size ≠ S from fun e => by have := hc.lt; omega)
  have HS0 := Lib.hid (hs.boxed (V := V) (H := H))
  have HB0 := Lib.hid (Bx.new (V := V) (H := H) hs)
  have HNE := Lib.hid hc.ne
  unfold datObj at HC0 HQ0 HS0 HB0
  unfold dat
  clear E hs hc
  go_enter Try.func66, Try.ntmps66
  have hL := median_any HE.out d _ (a - 1) a (a + 1) S HS0.out (by omega) (by omega) hb HC0.out
  rw [show ((a - 1 : Nat) : Int) = (a : Int) - 1 by omega, show ((a + 1 : Nat) : Int) = (a : Int) + 1 by omega] at hL
  have HL := Lib.hid hL
  unfold dat at HL
  clear hL
  go_wp2_with (go_at_call 67; (with_reducible refine HL.out.mono ?_); rintro e w2 ⟨m, rfl, HM, HQn, HCn⟩)
  go_ret
  exact ⟨m, rfl, Lib.hid (by have := HM.out; omega), Lib.hid (HQ0.out.trans HQn.out), HCn⟩
end Go.Proofs.Ytkfhlnpbklchmaa.srt
