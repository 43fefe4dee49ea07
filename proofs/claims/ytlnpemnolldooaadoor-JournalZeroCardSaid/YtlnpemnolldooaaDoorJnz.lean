/-
  The walk of JournalZero: a journal that nobody made has nothing.
-/
import Derived.Test.YtlnpemnolldooaaDoorJnm
namespace Go.Proofs.YtlnpemnolldooaaDoor.jn
open Go.RowKit Go.Proofs.YtlnpemnolldooaaDoor.mem Go.Proofs.YtlnpemnolldooaaDoor.rcd Go.Proofs.YtlnpemnolldooaaDoor.rows Go.Proofs.YtlnpemnolldooaaDoor.bk

theorem jsync_no (p : Value)  (w : World) (h : JnNo w p) : Calls Tryd.prog 14 #[p] w fun e w' => e = .returned (.int .i64 0) ∧ w = w' := by
  have HM := Lib.hid (jmade_no p w h)
  clear h
  go_enter Tryd.func14, Tryd.ntmps14
  go_wp2_with (go_at_call 26; (with_reducible refine HM.out.mono ?_); rintro e w1 ⟨rfl, rfl⟩)
  go_ret
  exact ⟨rfl, rfl⟩
theorem jcrash_no (p : Value) (n : Int) (w : World) (h : JnNo w p) : Calls Tryd.prog 16 #[p, .int .i64 n] w fun e w' => e = .returned (.slice none 0 0) ∧ w = w' := by
  have HM := Lib.hid (jmade_no p w h)
  clear h
  go_enter Tryd.func16, Tryd.ntmps16
  go_wp2_with (go_at_call 26; (with_reducible refine HM.out.mono ?_); rintro e w1 ⟨rfl, rfl⟩)
  go_ret
  exact ⟨rfl, rfl⟩
theorem jlen_no (p : Value)  (w : World) (h : JnNo w p) : Calls Tryd.prog 18 #[p] w fun e w' => e = .returned (.int .i64 0) ∧ w = w' := by
  have HM := Lib.hid (jmade_no p w h)
  clear h
  go_enter Tryd.func18, Tryd.ntmps18
  go_wp2_with (go_at_call 26; (with_reducible refine HM.out.mono ?_); rintro e w1 ⟨rfl, rfl⟩)
  go_ret
  exact ⟨rfl, rfl⟩
theorem jsafe_no (p : Value)  (w : World) (h : JnNo w p) : Calls Tryd.prog 19 #[p] w fun e w' => e = .returned (.int .i64 0) ∧ w = w' := by
  have HM := Lib.hid (jmade_no p w h)
  clear h
  go_enter Tryd.func19, Tryd.ntmps19
  go_wp2_with (go_at_call 26; (with_reducible refine HM.out.mono ?_); rintro e w1 ⟨rfl, rfl⟩)
  go_ret
  exact ⟨rfl, rfl⟩
theorem jsize_no (p : Value)  (w : World) (h : JnNo w p) : Calls Tryd.prog 20 #[p] w fun e w' => e = .returned (.int .i64 0) ∧ w = w' := by
  have HM := Lib.hid (jmade_no p w h)
  clear h
  go_enter Tryd.func20, Tryd.ntmps20
  go_wp2_with (go_at_call 26; (with_reducible refine HM.out.mono ?_); rintro e w1 ⟨rfl, rfl⟩)
  go_ret
  exact ⟨rfl, rfl⟩
theorem JnNo.next {w w' : World} {p : Value} (h : JnNo w p) (hb : Below w.heap.size w w') : JnNo w' p := by
  rcases h with h | ⟨g, hp, h⟩
  · exact .inl h
  · exact .inr ⟨g, hp, h.below hb h.lt⟩
theorem jappend_no (p : Value) (k0 : Int) (t0 : ByteArray) (w : World) (h : JnNo w p) : Calls Tryd.prog 12 #[p, .agg #[.int .i64 k0, .string t0]] w fun e w' => e = .returned (.int .i64 8) ∧ Below w.heap.size w w' := by
  obtain ⟨w1, hw1⟩ : ∃ u, u = w.alloc (.cells #[.int .i64 k0, .string t0] 39) := ⟨_, rfl⟩
  have hB1 : Below w.heap.size w w1 := by rw [hw1]; exact (Below.refl _ w).alloc (Nat.le_refl _) _
  have HM := Lib.hid (jmade_no p w1 (h.next hB1))
  have HB := Lib.hid hB1
  have HW := Lib.hid hw1
  clear h hB1 hw1
  go_enter Tryd.func12, Tryd.ntmps12
  go_upto_region 1 with fail
  refine wp_at HW.out.symm ?_
  clear HW
  go_wp2_with (go_at_call 26; (with_reducible refine HM.out.mono ?_); rintro e wx ⟨rfl, rfl⟩)
  go_ret
  exact ⟨rfl, HB.out⟩
theorem read_no (g : Nat) (b sv : Value) (n m : Nat) (w : World) (hT : crc.Tab w) (hj : JBlk w g b sv n m) (hb : BlkNo w b) :
    Calls Tryd.prog 24 #[.pointer (some ⟨g, 0, none⟩)] w fun e w' => e = .returned (.tuple #[.slice none 0 0, .int .i64 8]) ∧ Below w.heap.size w w' := by
  have c0 := hj.c0
  have HD := Lib.hid (data_no b w hb)
  have HA := Lib.hid (rc_is.all ⟨#[]⟩ w hT (by decide))
  rw [show (allT (⟨#[]⟩ : ByteArray).data.toList) = ([], 0, 0) from rfl] at HA
  have HC := Lib.hid fun u (hu : Below w.heap.size w u) => cut_no b 0 u (hb.next hu)
  have HJ := Lib.hid hj
  clear hj hb hT
  go_enter Tryd.func24, Tryd.ntmps24
  go_wp2_with (first
    | (go_at_call 21; (with_reducible refine HD.out.mono ?_); rintro e w1 ⟨rfl, rfl⟩)
    | (go_at_call 34; (with_reducible refine (HA.out).mono ?_); rintro e w2 ⟨v, rfl, hO2, hb2⟩;
        (have hJ2 : JBlk w2 g b sv n m := Blk.below HJ.out hb2 (Blk.lt HJ.out));
        have d0 := hJ2.c0; have HB2 := Lib.hid hb2;
        (obtain ⟨ad, cap, rfl⟩ := OwnK.form hO2); clear hO2 hJ2 hb2)
    | (go_at_call 35; (with_reducible refine (HC.out w2 HB2.out).mono ?_); rintro e w3 ⟨rfl, rfl⟩))
  refine bodyPost_ret (results_tmp2 rfl _ _ _) rfl ?_
  exact ⟨rfl, HB2.out⟩
theorem open_no' (a : Option Addr) (w : World) (hT : crc.Tab w) (hb : BlkNo w (.pointer a)) : Calls Tryd.prog 9 #[.pointer a] w fun e w' => e = .returned (.tuple #[.pointer none, .slice none 0 0]) ∧ Below w.heap.size w w' := by
  obtain ⟨u, hu⟩ : ∃ u, u = w.alloc (.cells #[.pointer a, .pointer none, .int .i64 0, .int .i64 0] 52) := ⟨_, rfl⟩
  obtain ⟨g, hg⟩ : ∃ g, g = w.heap.size := ⟨_, rfl⟩
  have hB : Below w.heap.size w u := by rw [hu]; exact (Below.refl _ w).alloc (Nat.le_refl _) _
  have hR := read_no g (.pointer a) (.pointer none) 0 0 u (rc_is.next hT hB) (by rw [hu, hg]; exact Blk.new w _ _) (hb.next hB)
  have HR := Lib.hid hR
  have HB := Lib.hid hB
  have HW := Lib.hid hu
  have HG := Lib.hid hg
  clear hT hb hB hR hu hg
  go_enter Tryd.func9, Tryd.ntmps9
  go_upto_region 2 with fail
  refine wp_at HW.out.symm ?_
  rw [← HG.out]
  clear HW HG
  go_wp2_with (go_at_call 24; (with_reducible refine HR.out.mono ?_); rintro e w1 ⟨rfl, hb1⟩)
  refine bodyPost_ret (results_tmp2 rfl _ _ _) rfl ?_
  exact ⟨rfl, HB.out.trans (hb1.mono HB.out.size)⟩
theorem open_no (b : Value) (w : World) (hT : crc.Tab w) (hb : BlkNo w b) : Calls Tryd.prog 9 #[b] w fun e w' => e = .returned (.tuple #[.pointer none, .slice none 0 0]) ∧ Below w.heap.size w w' := by
  have hb' := hb
  rcases hb with rfl | ⟨g, rfl, _⟩
  · exact open_no' _ w hT hb'
  · exact open_no' _ w hT hb'

set_option maxHeartbeats 4000000 in
set_option maxRecDepth 100000 in
theorem zero_walk (k0 : Int) (t0 : ByteArray) (n : Int) (w : World) (hT : crc.Tab w) : Calls Tryd.prog 5 #[.agg #[.int .i64 k0, .string t0], .int .i64 n] w fun e w' => e = .returned (.bool true) ∧ Below w.heap.size w w' := by
  obtain ⟨S, hS⟩ : ∃ g, g = w.heap.size := ⟨_, rfl⟩
  obtain ⟨u0, hu0⟩ : ∃ u, u = w.alloc (.cells #[.int .i64 k0, .string t0] 39) := ⟨_, rfl⟩
  obtain ⟨u1, hu1⟩ : ∃ u, u = u0.alloc (.cells #[.pointer none, .pointer none, .int .i64 0, .int .i64 0] 52) := ⟨_, rfl⟩
  obtain ⟨u, hu⟩ : ∃ u, u = u1.alloc (.cells #[.pointer none, .slice none 0 0, .int .i64 0] 55) := ⟨_, rfl⟩
  obtain ⟨g1, hg1⟩ : ∃ g, g = S + 1 := ⟨_, rfl⟩
  obtain ⟨g, hg⟩ : ∃ g, g = S + 1 + 1 := ⟨_, rfl⟩
  have hB0 : Below w.heap.size w u0 := by rw [hu0]; exact (Below.refl _ w).alloc (Nat.le_refl _) _
  have hB1 : Below u0.heap.size u0 u1 := by rw [hu1]; exact (Below.refl _ u0).alloc (Nat.le_refl _) _
  have hB2 : Below u1.heap.size u1 u := by rw [hu]; exact (Below.refl _ u1).alloc (Nat.le_refl _) _
  have hB12 := hB1.trans (hB2.mono hB1.size)
  have hB := hB0.trans (hB12.mono hB0.size)
  have hR0 : Blk u0 S 39 #[.int .i64 k0, .string t0] := by rw [hu0, hS]; exact Blk.new w _ _
  have hR : Blk u S 39 #[.int .i64 k0, .string t0] := hR0.below hB12 hR0.lt
  have HR : Hid (∀ v, Below u.heap.size u v → v.cell? ⟨S, 0, none⟩ = some (.int .i64 k0) ∧ v.cell? ⟨S, 1, none⟩ = some (.string t0)) := Lib.hid fun v hv => ⟨(hR.below hv hR.lt).cell 0, (hR.below hv hR.lt).cell 1⟩
  have hJ1 : Blk u1 g1 52 #[.pointer none, .pointer none, .int .i64 0, .int .i64 0] := by rw [hu1, hg1]; exact Blk.at_ (by rw [hu0, hS]; simp) _ _
  have HJ := Lib.hid (hJ1.below hB2 hJ1.lt)
  have HZ := Lib.hid (show BlkNo u (.pointer (some ⟨g, 0, none⟩)) from .inr ⟨g, rfl, by rw [hu, hg]; exact Blk.at_ (by rw [hu1, hu0, hS]; simp) _ _⟩)
  have HN := Lib.hid fun v : World => (show BlkNo v (.pointer none) from .inl rfl)
  have HO1 := Lib.hid (open_no (.pointer none) u (rc_is.next hT hB) (HN.out u))
  have HO2 := Lib.hid fun v (hv : Below u.heap.size u v) => open_no (.pointer (some ⟨g, 0, none⟩)) v (rc_is.next hT (hB.trans (hv.mono hB.size))) (HZ.out.next hv)
  have HA := Lib.hid fun v (hv : Below u.heap.size u v) => awake_any jn_is v (rc_is.next hT (hB.trans (hv.mono hB.size)))
  have HNo := Lib.hid fun v : World => (show JnNo v (.pointer none) from .inl rfl)
  have HZo := Lib.hid fun v (hv : Below u.heap.size u v) => (show JnNo v (.pointer (some ⟨g1, 0, none⟩)) from .inr ⟨g1, rfl, HJ.out.below hv HJ.out.lt⟩)
  have HNAppend := Lib.hid fun v => jappend_no (.pointer none) k0 t0 v (HNo.out v)
  have HZAppend := Lib.hid fun v (hv : Below u.heap.size u v) => jappend_no (.pointer (some ⟨g1, 0, none⟩)) k0 t0 v (HZo.out v hv)
  have HNSync := Lib.hid fun v => jsync_no (.pointer none) v (HNo.out v)
  have HZSync := Lib.hid fun v (hv : Below u.heap.size u v) => jsync_no (.pointer (some ⟨g1, 0, none⟩)) v (HZo.out v hv)
  have HNCrash := Lib.hid fun v => jcrash_no (.pointer none) n v (HNo.out v)
  have HZCrash := Lib.hid fun v (hv : Below u.heap.size u v) => jcrash_no (.pointer (some ⟨g1, 0, none⟩)) n v (HZo.out v hv)
  have HNLen := Lib.hid fun v => jlen_no (.pointer none) v (HNo.out v)
  have HZLen := Lib.hid fun v (hv : Below u.heap.size u v) => jlen_no (.pointer (some ⟨g1, 0, none⟩)) v (HZo.out v hv)
  have HNSafe := Lib.hid fun v => jsafe_no (.pointer none) v (HNo.out v)
  have HZSafe := Lib.hid fun v (hv : Below u.heap.size u v) => jsafe_no (.pointer (some ⟨g1, 0, none⟩)) v (HZo.out v hv)
  have HNSize := Lib.hid fun v => jsize_no (.pointer none) v (HNo.out v)
  have HZSize := Lib.hid fun v (hv : Below u.heap.size u v) => jsize_no (.pointer (some ⟨g1, 0, none⟩)) v (HZo.out v hv)
  have HB := Lib.hid hB
  have HW := Lib.hid hu
  have HW1 := Lib.hid hu1
  have HW0 := Lib.hid hu0
  have HG := Lib.hid (And.intro hS (And.intro hg1 hg))
  clear hB hB0 hB1 hB2 hB12 hT HNo HZo HN HZ HJ hR hR0 hJ1 hu hu1 hu0 hS hg hg1
  go_enter Tryd.func5, Tryd.ntmps5
  go_upto_region 4 with fail
  rw [← HW0.out, ← HW1.out, ← HG.out.1, ← HG.out.2.2, ← HG.out.2.1]
  refine wp_at HW.out.symm ?_
  clear HW HW1 HW0 HG
  go_wp2_with (first
    | (go_at_call 9; (with_reducible refine HO1.out.mono ?_); rintro e w2 ⟨rfl, hb2⟩; have HB2 := Lib.hid hb2; clear hb2)
    | (go_at_call 9; (with_reducible refine (HO2.out w2 HB2.out).mono ?_); rintro e w3 ⟨rfl, hb3⟩; have HB3 := Lib.hid (HB2.out.trans (hb3.mono HB2.out.size)); (obtain ⟨r0, r1⟩ := HR.out w3 HB3.out); clear hb3)
    | (go_at_call 12; (with_reducible refine (HNAppend.out w3).mono ?_); rintro e w4 ⟨rfl, hb4⟩; have HB4 := Lib.hid (HB3.out.trans (hb4.mono HB3.out.size)); (obtain ⟨q0, q1⟩ := HR.out w4 HB4.out); clear hb4 r0 r1)
    | (go_at_call 12; (with_reducible refine (HZAppend.out w4 HB4.out).mono ?_); rintro e w5 ⟨rfl, hb5⟩; have HB5 := Lib.hid (HB4.out.trans (hb5.mono HB4.out.size)); clear hb5)
    | (go_at_call 14; (with_reducible refine (HNSync.out w5).mono ?_); rintro e wx ⟨rfl, rfl⟩)
    | (go_at_call 14; (with_reducible refine (HZSync.out w5 HB5.out).mono ?_); rintro e wx ⟨rfl, rfl⟩)
    | (go_at_call 16; (with_reducible refine (HNCrash.out w5).mono ?_); rintro e wx ⟨rfl, rfl⟩)
    | (go_at_call 16; (with_reducible refine (HZCrash.out w5 HB5.out).mono ?_); rintro e wx ⟨rfl, rfl⟩)
    | (go_at_call 18; (with_reducible refine (HNLen.out w5).mono ?_); rintro e wx ⟨rfl, rfl⟩)
    | (go_at_call 18; (with_reducible refine (HZLen.out w5 HB5.out).mono ?_); rintro e wx ⟨rfl, rfl⟩)
    | (go_at_call 19; (with_reducible refine (HNSafe.out w5).mono ?_); rintro e wx ⟨rfl, rfl⟩)
    | (go_at_call 19; (with_reducible refine (HZSafe.out w5 HB5.out).mono ?_); rintro e wx ⟨rfl, rfl⟩)
    | (go_at_call 20; (with_reducible refine (HNSize.out w5).mono ?_); rintro e wx ⟨rfl, rfl⟩)
    | (go_at_call 20; (with_reducible refine (HZSize.out w5 HB5.out).mono ?_); rintro e wx ⟨rfl, rfl⟩)
    | (go_at_call 6; (with_reducible refine (HA.out w5 HB5.out).mono ?_); rintro e w6 ⟨rfl, hb6⟩))
  go_ret
  exact ⟨rfl, (HB.out.trans (HB5.out.mono HB.out.size)).trans (hb6.mono (Nat.le_trans HB.out.size HB5.out.size))⟩
end Go.Proofs.YtlnpemnolldooaaDoor.jn
