/-
  Contracts of package octet's Writer, the rest: Text, Raw, Done.
  octet's Writer: numbers and raw bytes behind what was written.
  The landed record: isKind, Size, sum.
  The landed record: read.
  The landed record: read, Next.
-/
import Derived.Test.YtkbbeioednhefaaGreatDoorOctw
import Derived.Laws.IdiomStrings
import Derived.Laws.BytesArg
import Derived.Test.YtkbbeioednhefaaGreatDoorOpp
import Derived.Test.YtkbbeioednhefaaGreatDoorOctr
import Derived.Test.YtkbbeioednhefaaGreatDoorKitc
import Derived.Test.YtkbbeioednhefaaGreatDoorRdl
namespace Go.Proofs.YtkbbeioednhefaaGreatDoor.oct
open Go.RowKit Go.Proofs.YtkbbeioednhefaaGreatDoor.mem

theorem raw_stuck (p : Option Addr) (e0 : Int) (s : ByteArray) (w : World) (h : WFault w p e0) (h0 : e0 ≠ 0) :
    Calls Tryz.prog 78 #[.pointer p, .string s] w fun e w' => e = .returned (.pointer p) ∧ w = w' := by
  have hd : (e0 == 0) = false := by simpa using h0
  clear h0
  go_enter Tryz.func78, Tryz.ntmps78
  go_wp2_with (go_at_call 68; refine (fault_any _ _ _ h).mono ?_; rintro e w' ⟨rfl, rfl⟩)
  go_ret
  exact ⟨rfl, rfl⟩
theorem raw_good (F : Nat → Prop) (g : Nat) (out : List UInt8) (s : ByteArray) (w : World) (h : WrIs w F g out 0) (hn : New F w) (hl : out.length + s.size ≤ 140737488355328) :
    Calls Tryz.prog 78 #[.pointer (some ⟨g, 0, none⟩), .string s] w fun e w' => e = .returned (.pointer (some ⟨g, 0, none⟩)) ∧ WrIs w' F g (out ++ s.data.toList) 0 ∧ Turn F w w' := by
  obtain ⟨v, hw, ho, hF⟩ := h
  have c1 := hw.c1
  go_enter Tryz.func78, Tryz.ntmps78
  go_wp2_with (first
    | (go_at_call 68; refine (fault_ok _ _ _ _ hw).mono ?_; rintro e w' ⟨rfl, rfl⟩)
    | (at_builtin; go_must (refine wp_append_str rfl (.tmp 12) (.tmp 13) rfl (Row w v) _ v _ _ rfl ho.row s rfl hl (Row.new _ _) ?_); intro v2 w2 ho2 ht; obtain ⟨ad2, k2, cc2, rfl⟩ := ho2.form; have hw2 : WBlk w2 g v 0 := Blk.turn hw ht (Row.not ho hw); have d1 := hw2.c1; have f1 : w2.frozen? ⟨g, 1, none⟩ = false := Blk.frozen hw2 1))
  go_ret
  have ho2' : Owns w2 (Row w v) (.slice ad2 k2 cc2) (out.length + s.size) (bCells (out ++ s.data.toList)) := by
    rw [bCells_append]
    exact ho2
  have e : s.data.toList.length = s.size := by rw [Array.length_toList]; rfl
  exact ⟨rfl, WrIs.stored hw ho hn hF ho2' ht (by rw [List.length_append, e]), (ht.mono (Row.sub ho hn)).setCell hF _⟩
theorem done_stuck (p : Option Addr) (e0 : Int) (w : World) (h : WFault w p e0) (h0 : e0 ≠ 0) :
    Calls Tryz.prog 48 #[.pointer p] w fun e w' => e = .returned (.tuple #[.string ⟨#[]⟩, .int .i64 e0]) ∧ w = w' := by
  have hd : (e0 != 0) = true := by simpa using h0
  clear h0
  go_enter Tryz.func48, Tryz.ntmps48
  go_wp2_with (go_at_call 68; refine (fault_any _ _ _ h).mono ?_; rintro e w' ⟨rfl, rfl⟩)
  go_ret2
  exact ⟨rfl, rfl⟩
theorem done_good (F : Nat → Prop) (g : Nat) (out : List UInt8) (w : World) (h : WrIs w F g out 0) :
    Calls Tryz.prog 48 #[.pointer (some ⟨g, 0, none⟩)] w fun e w' => e = .returned (.tuple #[.string ⟨out.toArray⟩, .int .i64 0]) ∧ w = w' := by
  obtain ⟨v, hw, ho, hF⟩ := h
  have c1 := hw.c1
  have hcv := ho.string
  go_enter Tryz.func48, Tryz.ntmps48
  go_wp2_with (go_at_call 68; refine (fault_ok _ _ _ _ hw).mono ?_; rintro e w' ⟨rfl, rfl⟩)
  go_ret2
  exact ⟨rfl, rfl⟩
theorem raw_any (F : Nat → Prop) (g : Nat) (out : List UInt8) (err : Int) (s : ByteArray) (w : World) (h : WrIs w F g out err) (hn : New F w) (hl : err = 0 → out.length + s.size ≤ 140737488355328) :
    Calls Tryz.prog 78 #[.pointer (some ⟨g, 0, none⟩), .string s] w fun e w' => e = .returned (.pointer (some ⟨g, 0, none⟩)) ∧ WrIs w' F g (wRaw (out, err) s).1 (wRaw (out, err) s).2 ∧ Turn F w w' := by
  by_cases he : err = 0
  · subst he
    have e2 : wRaw (out, 0) s = (out ++ s.data.toList, 0) := by unfold wRaw; rw [if_neg (by simp)]
    rw [e2]
    exact raw_good F g out s w h hn (hl rfl)
  · have e2 : wRaw (out, err) s = (out, err) := by unfold wRaw; rw [if_pos he]
    rw [e2]
    refine (raw_stuck _ err s w h.fault he).mono fun e w' ⟨h1, h2⟩ => ?_
    subst h2
    exact ⟨h1, h, Turn.refl _ _⟩
theorem done_any (F : Nat → Prop) (g : Nat) (out : List UInt8) (err : Int) (w : World) (h : WrIs w F g out err) :
    Calls Tryz.prog 48 #[.pointer (some ⟨g, 0, none⟩)] w fun e w' => e = .returned (.tuple #[.string (wDone (out, err)).1, .int .i64 (wDone (out, err)).2]) ∧ w = w' := by
  by_cases he : err = 0
  · subst he
    have e2 : wDone (out, 0) = (⟨out.toArray⟩, 0) := by unfold wDone; rw [if_neg (by simp)]
    rw [e2]
    exact done_good F g out w h
  · have e2 : wDone (out, err) = (⟨#[]⟩, err) := by unfold wDone; rw [if_pos he]
    rw [e2]
    exact done_stuck _ err w h.fault he
end Go.Proofs.YtkbbeioednhefaaGreatDoor.oct

namespace Go.Proofs.YtkbbeioednhefaaGreatDoor.opn
open Go.RowKit Go.Proofs.YtkbbeioednhefaaGreatDoor.mem

theorem lcalls_at {P : Program} {f : FuncId} {args : Array Value} {w w' : World} {Q : Ending → World → Prop} (h : w = w') (k : Calls P f args w' Q) : Calls P f args w Q := h ▸ k
theorem be_b1 (n : Int) : oct.be n 1 = b1 n := rfl
theorem be_b4 (n : Int) : oct.be n 4 = b4 n := rfl
theorem wNum1 (out : List UInt8) (n : Int) (h0 : 0 ≤ n) (h1 : n < 256) : oct.wNum (out, 0) n 1 = (out ++ b1 n, 0) := by
  have e : oct.numErr n 1 = 0 := by
    unfold oct.numErr
    rw [if_neg (by decide), if_neg (by rw [if_pos rfl]; omega)]
  unfold oct.wNum
  rw [if_neg (fun h => h rfl), if_neg (fun h => h e), be_b1]
theorem wNum4 (out : List UInt8) (n : Int) (h0 : 0 ≤ n) (h1 : n < 4294967296) : oct.wNum (out, 0) n 4 = (out ++ b4 n, 0) := by
  have e : oct.numErr n 4 = 0 := by
    unfold oct.numErr
    rw [if_neg (by decide), if_neg (by rw [if_neg (by decide), if_neg (by decide)]; omega)]
  unfold oct.wNum
  rw [if_neg (fun h => h rfl), if_neg (fun h => h e), be_b4]
theorem wnum1_s (F : Nat → Prop) (g : Nat) (out : List UInt8) (n : Int) (h0 : 0 ≤ n) (h1 : n < 256) (w : World) (h : oct.WrIs w F g out 0) (hn : New F w) (hl : out.length ≤ 100000) :
    Calls Tryz.prog 47 #[.pointer (some ⟨g, 0, none⟩), .int .i64 n, .int .i64 1] w fun e w' => e = .returned (.pointer (some ⟨g, 0, none⟩)) ∧ oct.WrIs w' F g (out ++ b1 n) 0 ∧ Turn F w w' := by
  have := oct.num_any F g out 0 n 1 w h hn (by omega) (by omega)
  rw [wNum1 out n h0 h1] at this
  exact this
theorem wnum4_s (F : Nat → Prop) (g : Nat) (out : List UInt8) (n : Int) (h0 : 0 ≤ n) (h1 : n < 4294967296) (w : World) (h : oct.WrIs w F g out 0) (hn : New F w) (hl : out.length ≤ 100000) :
    Calls Tryz.prog 47 #[.pointer (some ⟨g, 0, none⟩), .int .i64 n, .int .i64 4] w fun e w' => e = .returned (.pointer (some ⟨g, 0, none⟩)) ∧ oct.WrIs w' F g (out ++ b4 n) 0 ∧ Turn F w w' := by
  have := oct.num_any F g out 0 n 4 w h hn (by omega) (by omega)
  rw [wNum4 out n h0 h1] at this
  exact this
theorem wraw_s (F : Nat → Prop) (g : Nat) (out : List UInt8) (s : ByteArray) (w : World) (h : oct.WrIs w F g out 0) (hn : New F w) (hl : out.length ≤ 100000) (hs : s.size ≤ 100000) :
    Calls Tryz.prog 78 #[.pointer (some ⟨g, 0, none⟩), .string s] w fun e w' => e = .returned (.pointer (some ⟨g, 0, none⟩)) ∧ oct.WrIs w' F g (out ++ s.data.toList) 0 ∧ Turn F w w' := by
  have := oct.raw_any F g out 0 s w h hn (fun _ => by omega)
  rw [show oct.wRaw (out, 0) s = (out ++ s.data.toList, 0) by unfold oct.wRaw; rw [if_neg (fun h => h rfl)]] at this
  exact this
theorem be_b2 (n : Int) : oct.be n 2 = b2 n := rfl
theorem wNum2 (out : List UInt8) (n : Int) (h0 : 0 ≤ n) (h1 : n < 65536) : oct.wNum (out, 0) n 2 = (out ++ b2 n, 0) := by
  have e : oct.numErr n 2 = 0 := by
    unfold oct.numErr
    rw [if_neg (by decide), if_neg (by rw [if_neg (by decide), if_pos rfl]; omega)]
  unfold oct.wNum
  rw [if_neg (fun h => h rfl), if_neg (fun h => h e), be_b2]
theorem wnum2_s (F : Nat → Prop) (g : Nat) (out : List UInt8) (n : Int) (h0 : 0 ≤ n) (h1 : n < 65536) (w : World) (h : oct.WrIs w F g out 0) (hn : New F w) (hl : out.length ≤ 100000) :
    Calls Tryz.prog 47 #[.pointer (some ⟨g, 0, none⟩), .int .i64 n, .int .i64 2] w fun e w' => e = .returned (.pointer (some ⟨g, 0, none⟩)) ∧ oct.WrIs w' F g (out ++ b2 n) 0 ∧ Turn F w w' := by
  have := oct.num_any F g out 0 n 2 w h hn (by omega) (by omega)
  rw [wNum2 out n h0 h1] at this
  exact this
theorem WrIs.sub {w : World} {F G : Nat → Prop} {g : Nat} {out : List UInt8} {err : Int} (h : oct.WrIs w F g out err) (hG : ∀ b, b < w.heap.size → F b → G b) : oct.WrIs w G g out err := by
  obtain ⟨v, hb, ho, hg⟩ := h
  exact ⟨v, hb, ⟨ho.1, fun k hk => hG k (ho.lt hk) (ho.2 k hk)⟩, hG g (Blk.lt hb) hg⟩
theorem WrIs.new {w : World} {F : Nat → Prop} {g : Nat} (h : oct.WBlk w g (.slice none 0 0) 0) (hF : F g) : oct.WrIs w F g [] 0 := ⟨_, h, Owns.nil _ _, hF⟩
end Go.Proofs.YtkbbeioednhefaaGreatDoor.opn

namespace Go.Proofs.YtkbbeioednhefaaGreatDoor.rcd
open Go.RowKit Go.Proofs.YtkbbeioednhefaaGreatDoor.mem Go.Proofs.YtkbbeioednhefaaGreatDoor.sha Go.Proofs.YtkbbeioednhefaaGreatDoor.opn

theorem iskind_yes (k : Int) (h : 1 ≤ k ∧ k ≤ 3) (w : World) : Calls Tryz.prog 77 #[.int .i64 k] w fun e w' => e = .returned (.bool true) ∧ w = w' := by
  have h3 : k = 1 ∨ k = 2 ∨ k = 3 := by omega
  clear h
  rcases h3 with rfl | rfl | rfl
  all_goals
    go_enter Tryz.func77, Tryz.ntmps77
    go_wp2_with fail
    go_ret
    exact ⟨rfl, rfl⟩
theorem iskind_no (k : Int) (h : k < 1 ∨ 3 < k) (w : World) : Calls Tryz.prog 77 #[.int .i64 k] w fun e w' => e = .returned (.bool false) ∧ w = w' := by
  have h1 : (k == 1) = false := by rw [beq_eq_false_iff_ne]; omega
  have h2 : (k == 2) = false := by rw [beq_eq_false_iff_ne]; omega
  have h3 : (k == 3) = false := by rw [beq_eq_false_iff_ne]; omega
  clear h
  go_enter Tryz.func77, Tryz.ntmps77
  go_wp2_with fail
  go_ret
  exact ⟨rfl, rfl⟩
theorem size_any (n : Int) (hn : n ≤ 1000000000) (w : World) : Calls Tryz.prog 95 #[.int .i64 n] w fun e w' => e = .returned (.int .i64 (sizeR n)) ∧ w = w' := by
  unfold sizeR
  by_cases h0 : n < 0
  · rw [if_pos h0]
    go_enter Tryz.func95, Tryz.ntmps95
    go_wp2_with fail
    go_ret
    exact ⟨rfl, rfl⟩
  · rw [if_neg h0]
    have hm : min n 9223372036854775798 = n := by omega
    have hw : IntKind.i64.wrap (n + 9) = n + 9 := by rw [IntKind.wrap_i64]; omega
    go_enter Tryz.func95, Tryz.ntmps95
    go_wp2_with fail
    go_ret
    exact ⟨rfl, rfl⟩
theorem tab_turn {F : Nat → Prop} {w w' : World} (h : crc.Tab w) (ht : Turn F w w') (h0 : ¬ F 0) : crc.Tab w' :=
  ⟨Nat.le_trans h.1 ht.size, fun j hj => by
    have := h.2 j hj
    rw [World.cell?_of_block (w := w) (w' := w') (a := ⟨0, j, none⟩) (ht.block 0 h0)]
    exact this⟩
set_option maxHeartbeats 2000000 in
set_option maxRecDepth 100000 in
theorem sum_any (k : Int) (b : List UInt8) (hk : 1 ≤ k ∧ k ≤ 3) (hb : b.length ≤ 1000000000) (w : World) (hT : crc.Tab w) :
    Calls Tryz.prog 79 #[recv ⟨k, b⟩] w fun e w' => e = .returned (.int .i64 (sumI ⟨k, b⟩)) ∧ Below w.heap.size w w' := by
  obtain ⟨h1, h2⟩ := hk
  have hts := oct.tx_size b
  have htl := oct.tx_list b
  unfold recv
  obtain ⟨t, ht⟩ : ∃ t, t = oct.tx b := ⟨_, rfl⟩
  simp only
  rw [← ht] at hts htl ⊢
  have kw : IntKind.u8.wrap k = k := by rw [show IntKind.u8.wrap k = k % 256 from rfl]; omega
  have hcv := conv_k (w.alloc (.cells #[.int .i64 k, .string t] 66)) k (by omega)
  rw [show (w.alloc (.cells #[.int .i64 k, .string t] 66)).heap.size = w.heap.size + 1 by simp] at hcv
  have hb2 : Below w.heap.size w ((w.alloc (.cells #[.int .i64 k, .string t] 66)).alloc (.cells #[.int .u8 k] 5)) := ((Below.refl _ _).alloc (Nat.le_refl _) _).alloc (by simp) _
  have HS := Lib.hid (crc.sum_walk (oct.tx (b1 k)) _ (hT.next hb2) (by rw [oct.tx_size, b1_len]; decide))
  have HA := Lib.hid (crc.add_walk (crc.addC 0 (b1 k)) t _ (hT.next hb2) (by omega))
  rw [htl, crc.addC_append] at HA
  rw [oct.tx_list] at HS
  have hz := sumI_lt ⟨k, b⟩
  have hze : U (crc.addC 0 (b1 k ++ b)) = sumI ⟨k, b⟩ := rfl
  rw [hze] at HA
  obtain ⟨z, hz2⟩ : ∃ z, z = sumI ⟨k, b⟩ := ⟨_, rfl⟩
  rw [← hz2] at HA hz ⊢
  obtain ⟨z0, z1⟩ := hz
  have zw : IntKind.i64.wrap z = z := by rw [IntKind.wrap_i64]; omega
  obtain ⟨q, hq⟩ : ∃ q, q = oct.tx (b1 k) := ⟨_, rfl⟩
  rw [← hq] at HS hcv
  obtain ⟨c, hc⟩ : ∃ c, c = U (crc.addC 0 (b1 k)) := ⟨_, rfl⟩
  rw [← hc] at HS HA
  have HB := Lib.hid hb2
  clear hts htl ht hb2 hze hz2 hq hc hT hb
  go_enter Tryz.func79, Tryz.ntmps79
  go_wp2_with (first
    | (go_at_call 91; (with_reducible refine HS.out.mono ?_); rintro e w1 ⟨rfl, rfl⟩)
    | (go_at_call 92; (with_reducible refine HA.out.mono ?_); rintro e w2 ⟨rfl, rfl⟩))
  go_ret
  exact ⟨rfl, HB.out⟩
end Go.Proofs.YtkbbeioednhefaaGreatDoor.rcd

namespace Go.Proofs.YtkbbeioednhefaaGreatDoor.rcd
open Go.RowKit Go.Proofs.YtkbbeioednhefaaGreatDoor.mem Go.Proofs.YtkbbeioednhefaaGreatDoor.sha Go.Proofs.YtkbbeioednhefaaGreatDoor.opn

theorem st_two (n : Nat) (st : St) (h : st.2 = 0 ∨ st.2 = 2) : (rd n st).2.2 = 0 ∨ (rd n st).2.2 = 2 := by
  unfold rd
  repeat' split
  · exact h
  · exact .inr rfl
  · exact .inl rfl
theorem st_twoN (n : Nat) (st : St) (h : st.2 = 0 ∨ st.2 = 2) : (rdN n st).2.2 = 0 ∨ (rdN n st).2.2 = 2 := st_two n st h
/-- the order in which the landed code asks -/
theorem first_alt (l : List UInt8) : firstR l =
    if 1048576 < (rdN 4 (l, 0)).1 then (zrc, 0, 3)
    else if (rdN 4 (rd (rdN 4 (l, 0)).1.toNat (rdN 1 (rdN 4 (l, 0)).2).2).2).2.2 ≠ 0 then (zrc, 0, 2)
    else if (rdN 1 (rdN 4 (l, 0)).2).1 < 1 ∨ 3 < (rdN 1 (rdN 4 (l, 0)).2).1 then (zrc, 0, 10)
    else if sumI ⟨(rdN 1 (rdN 4 (l, 0)).2).1, (rd (rdN 4 (l, 0)).1.toNat (rdN 1 (rdN 4 (l, 0)).2).2).1⟩ ≠ (rdN 4 (rd (rdN 4 (l, 0)).1.toNat (rdN 1 (rdN 4 (l, 0)).2).2).2).1 then (zrc, 0, 13)
    else (⟨(rdN 1 (rdN 4 (l, 0)).2).1, (rd (rdN 4 (l, 0)).1.toNat (rdN 1 (rdN 4 (l, 0)).2).2).1⟩, (rdN 4 (l, 0)).1 + 9, 0) := by
  by_cases h4 : 4 ≤ l.length
  · have hn4 : rdN 4 (l, 0) = (num (l.take 4), (l.drop 4, 0)) := by unfold rdN; rw [(rd_st 4 l).1 h4]
    unfold firstR
    rw [hn4]
    simp only [ne_eq, not_true_eq_false, if_false]
  · have e4 : rdN 4 (l, 0) = (0, ([], 2)) := by unfold rdN; rw [(rd_st 4 l).2 (by omega)]; rfl
    unfold firstR
    rw [e4]
    simp only
    rw [if_pos (by decide), if_neg (by decide), if_pos]
    rw [stays_N 1 2 (by decide), stays_rd _ 2 (by decide), stays_N 4 2 (by decide)]
    decide
theorem first_len {l : List UInt8} (h : (firstR l).2.2 = 0) : (firstR l).2.1 = ((firstR l).1.body.length : Int) + 9 ∧ (firstR l).1.body.length ≤ 1048576 := by
  rw [first_alt] at h ⊢
  split at h
  · cases h
  · next h3 =>
    split at h
    · cases h
    · next h2 =>
      split at h
      · cases h
      · next h10 =>
        split at h
        · cases h
        · next h13 =>
          rw [if_neg h3, if_neg h2, if_neg h10, if_neg h13]
          simp only
          have h0 := rdN_nonneg 4 (l, 0)
          have hx : (rd (rdN 4 (l, 0)).1.toNat (rdN 1 (rdN 4 (l, 0)).2).2).1.length = (rdN 4 (l, 0)).1.toNat := by
            have h2' : (rdN 4 (rd (rdN 4 (l, 0)).1.toNat (rdN 1 (rdN 4 (l, 0)).2).2).2).2.2 = 0 := Decidable.not_not.1 h2
            obtain ⟨st, hst⟩ : ∃ st, st = (rdN 1 (rdN 4 (l, 0)).2).2 := ⟨_, rfl⟩
            rw [← hst] at h2' ⊢
            obtain ⟨l2, e2⟩ := st
            have he : (rd (rdN 4 (l, 0)).1.toNat (l2, e2)).2.2 = 0 := rd_err' h2'
            unfold rd at he ⊢
            split at he
            · next hne => exact absurd he hne
            · next hne =>
              rw [if_neg hne]
              split at he
              · cases he
              · next hl =>
                rw [if_neg hl]
                simp only at hl ⊢
                rw [List.length_take]; omega
          rw [hx]
          omega
theorem results_rc2 {fn : Func} {p q : Tmp} (h : fn.results = #[.cell p 66, .tmp q]) (tmps : Array Value) (w : World) (g : Nat) (k : Int) (s : ByteArray)
    (hp : tmps.getD p undef = .pointer (some ⟨g, 0, none⟩)) (hg : Blk w g 66 #[.int .i64 k, .string s]) :
    (results fn tmps).run Tryz.prog w = .ok (.tuple #[.agg #[.int .i64 k, .string s], tmps.getD q undef]) w := by
  have hp' : tmps[p]?.getD undef = .pointer (some ⟨g, 0, none⟩) := by simpa using hp
  have hl := run_loadVar_row w g 66 66 #[.int .i64 k, .string s] (0, 0) _ hg Tryz.underlying66 rfl (by rw [info_rc]; rfl)
  simp [results, h, hp', asAddr, hl]
/-- what stands while the landed code reads: the result's box R, the Reader's g -/
structure LS (w0 : World) (R g : Nat) (st : St) (w : World) : Prop where
  turn : Turn (oct.Only w0 g) w0 w
  r : Blk w R 66 #[.int .i64 0, .string ⟨#[]⟩]
  rd : RdL w g st
  gR : g < w0.heap.size
  Rge : w0.heap.size ≤ R
  g0 : 0 < g
  tab : crc.Tab w
section
variable {w0 w w' : World} {R g A : Nat} {st st' : St} {k : Int} {s : ByteArray}
theorem LS.step (h : LS w0 R g st w) (hr : RdL w' g st') (ht : Turn (oct.Only w g) w w') : LS w0 R g st' w' := by
  have h1 := h.r.lt
  have h2 := h.gR
  have h3 := h.Rge
  have h4 := h.turn.size
  have h5 := h.g0
  exact ⟨h.turn.trans (ht.mono fun j hj => hj.imp id fun x => Nat.le_trans h4 x), Blk.turn h.r ht (fun hh => by rcases hh with e | e <;> omega), hr, h2, h3, h5, tab_turn h.tab ht (fun hh => by rcases hh with e | e <;> omega)⟩
theorem LS.next (h : LS w0 R g st w) (hb : Below w.heap.size w w') : LS w0 R g st w' :=
  h.step (h.rd.turn (Turn.ofBelow hb) (by have := h.rd.lt; omega)) ((Turn.ofBelow hb).mono fun j hj => .inr hj)
theorem LS.out (h : LS w0 R g st w) (k : Int) (t : ByteArray) : Blk ((w.setCell ⟨R, 0, none⟩ (.int .i64 k)).setCell ⟨R, 1, none⟩ (.string t)) R 66 #[.int .i64 k, .string t] ∧ Turn (oct.Only w0 g) w0 ((w.setCell ⟨R, 0, none⟩ (.int .i64 k)).setCell ⟨R, 1, none⟩ (.string t)) := by
  refine ⟨(h.r.set_ 0 (.int .i64 k)).set_ 1 (.string t), ?_⟩
  exact h.turn.trans ((((Turn.refl (· = R) w).setCell rfl _).setCell rfl _).mono fun j hj => by rw [hj]; exact .inr h.Rge)
theorem LS.cells (h : LS w0 R g st w) : w.cell? ⟨R, 0, none⟩ = some (.int .i64 0) ∧ w.cell? ⟨R, 1, none⟩ = some (.string ⟨#[]⟩) ∧ w.frozen? ⟨R, 0, none⟩ = false ∧ w.frozen? ⟨R, 1, none⟩ = false :=
  ⟨h.r.cell 0, h.r.cell 1, h.r.frozen 0, h.r.frozen 1⟩
theorem LS.start (g : Nat) (st : St) (w : World) (h : RdL w g st) (hT : crc.Tab w) (hg : 0 < g) : LS w w.heap.size g st (w.alloc (.cells #[.int .i64 0, .string ⟨#[]⟩] 66)) := by
  have hb : Below w.heap.size w (w.alloc (.cells #[.int .i64 0, .string ⟨#[]⟩] 66)) := (Below.refl _ _).alloc (Nat.le_refl _) _
  exact ⟨(Turn.ofBelow hb).mono fun j hj => .inr hj, Blk.new w _ _, h.turn (Turn.ofBelow hb) (by have := h.lt; omega), h.lt, Nat.le_refl _, hg, hT.next hb⟩
end
end Go.Proofs.YtkbbeioednhefaaGreatDoor.rcd

namespace Go.Proofs.YtkbbeioednhefaaGreatDoor.rcd
open Go.RowKit Go.Proofs.YtkbbeioednhefaaGreatDoor.mem Go.Proofs.YtkbbeioednhefaaGreatDoor.sha Go.Proofs.YtkbbeioednhefaaGreatDoor.opn

/-- .. and the record's box A -/
structure LA (w0 : World) (R g A : Nat) (st : St) (k : Int) (s : ByteArray) (w : World) : Prop where
  ls : LS w0 R g st w
  a : Blk w A 66 #[.int .i64 k, .string s]
  ag : A ≠ g
  ar : A ≠ R
  age : w0.heap.size ≤ A
section
variable {w0 w w' : World} {R g A : Nat} {st st' : St} {k : Int} {s : ByteArray}
theorem LA.step (h : LA w0 R g A st k s w) (hr : RdL w' g st') (ht : Turn (oct.Only w g) w w') : LA w0 R g A st' k s w' :=
  ⟨h.ls.step hr ht, Blk.turn h.a ht (fun hh => by have := h.a.lt; have := h.ag; rcases hh with e | e <;> omega), h.ag, h.ar, h.age⟩
theorem LA.next (h : LA w0 R g A st k s w) (hb : Below w.heap.size w w') : LA w0 R g A st k s w' := ⟨h.ls.next hb, h.a.below hb h.a.lt, h.ag, h.ar, h.age⟩
theorem LA.start (h : LS w0 R g st w) (k : Int) (s : ByteArray) : LA w0 R g w.heap.size st k s (w.alloc (.cells #[.int .i64 k, .string s] 66)) := by
  have hb : Below w.heap.size w (w.alloc (.cells #[.int .i64 k, .string s] 66)) := (Below.refl _ _).alloc (Nat.le_refl _) _
  exact ⟨h.next hb, Blk.new w _ _, by have := h.rd.lt; omega, by have := h.r.lt; omega, h.turn.size⟩
theorem LA.cells (h : LA w0 R g A st k s w) : w.cell? ⟨A, 0, none⟩ = some (.int .i64 k) ∧ w.cell? ⟨A, 1, none⟩ = some (.string s) := ⟨h.a.cell 0, h.a.cell 1⟩
end
set_option maxHeartbeats 4000000 in
set_option maxRecDepth 100000 in
theorem read_any (g : Nat) (l : List UInt8) (w : World) (hT : crc.Tab w) (hg : 0 < g) (h : RdL w g (l, 0)) (hl : l.length ≤ 100000000) :
    Calls Tryz.prog 103 #[.pointer (some ⟨g, 0, none⟩)] w fun e w' => e = .returned (.tuple #[recv (firstR l).1, .int .i64 (firstR l).2.2]) ∧ Turn (oct.Only w g) w w' := by
  have L0 := LS.start g _ w h hT hg
  obtain ⟨w1, hw1⟩ : ∃ u, u = w.alloc (.cells #[.int .i64 0, .string ⟨#[]⟩] 66) := ⟨_, rfl⟩
  rw [← hw1] at L0
  have HW1 := Lib.hid hw1
  have n0 := rdN_nonneg 4 (l, 0)
  have n1 := rdN4_lt (l, 0)
  have HA := Lib.hid (first_alt l)
  have HN4 : Hid (∀ u, RdL u g (l, 0) → Calls Tryz.prog 86 #[.pointer (some ⟨g, 0, none⟩), .int .i64 4] u fun e w' => e = .returned (.int .i64 (rdN 4 (l, 0)).1) ∧ RdL w' g (rdN 4 (l, 0)).2 ∧ Turn (oct.Only u g) u w') := Lib.hid fun u hu => lnum4_s _ g _ u hu (oct.Only.self _ _) (oct.Only.new _ _)
  obtain ⟨n, hn⟩ : ∃ n, n = (rdN 4 (l, 0)).1 := ⟨_, rfl⟩
  obtain ⟨s1, hs1⟩ : ∃ s, s = (rdN 4 (l, 0)).2 := ⟨_, rfl⟩
  rw [← hn, ← hs1] at HN4
  rw [← hn] at n0 n1
  rw [← hn, ← hs1] at HA
  have HN1 : Hid (∀ u, RdL u g s1 → Calls Tryz.prog 86 #[.pointer (some ⟨g, 0, none⟩), .int .i64 1] u fun e w' => e = .returned (.int .i64 (rdN 1 s1).1) ∧ RdL w' g (rdN 1 s1).2 ∧ Turn (oct.Only u g) u w') := Lib.hid fun u hu => lnum1_s _ g _ u hu (oct.Only.self _ _) (oct.Only.new _ _)
  obtain ⟨k, hk⟩ : ∃ k, k = (rdN 1 s1).1 := ⟨_, rfl⟩
  obtain ⟨s2, hs2⟩ : ∃ s, s = (rdN 1 s1).2 := ⟨_, rfl⟩
  rw [← hk, ← hs2] at HN1 HA
  have HRW : Hid (∀ u, RdL u g s2 → Calls Tryz.prog 104 #[.pointer (some ⟨g, 0, none⟩), .int .i64 n] u fun e w' => e = .returned (.string (oct.tx (rd n.toNat s2).1)) ∧ RdL w' g (rd n.toNat s2).2 ∧ Turn (oct.Only u g) u w') := Lib.hid fun u hu => lraw_s _ g _ n n0 u hu (oct.Only.self _ _) (oct.Only.new _ _)
  obtain ⟨b, hb⟩ : ∃ b, b = (rd n.toNat s2).1 := ⟨_, rfl⟩
  have hbl := rd_len n.toNat s2
  obtain ⟨s3, hs3⟩ : ∃ s, s = (rd n.toNat s2).2 := ⟨_, rfl⟩
  rw [← hb, ← hs3] at HRW HA
  rw [← hb] at hbl
  have HN4' : Hid (∀ u, RdL u g s3 → Calls Tryz.prog 86 #[.pointer (some ⟨g, 0, none⟩), .int .i64 4] u fun e w' => e = .returned (.int .i64 (rdN 4 s3).1) ∧ RdL w' g (rdN 4 s3).2 ∧ Turn (oct.Only u g) u w') := Lib.hid fun u hu => lnum4_s _ g _ u hu (oct.Only.self _ _) (oct.Only.new _ _)
  have h2 : (rdN 4 s3).2.2 = 0 ∨ (rdN 4 s3).2.2 = 2 := st_twoN 4 s3 (by rw [hs3]; exact st_two _ _ (by rw [hs2]; exact st_twoN 1 _ (by rw [hs1]; exact st_twoN 4 _ (.inl rfl))))
  obtain ⟨d, hd⟩ : ∃ d, d = (rdN 4 s3).1 := ⟨_, rfl⟩
  obtain ⟨s4, hs4⟩ : ∃ s, s = (rdN 4 s3).2 := ⟨_, rfl⟩
  rw [← hd, ← hs4] at HN4' HA
  rw [← hs4] at h2
  have HER : Hid (∀ u, RdL u g s4 → Calls Tryz.prog 99 #[.pointer (some ⟨g, 0, none⟩)] u fun e w' => e = .returned (.int .i64 s4.2) ∧ u = w') := Lib.hid fun u hu => lerr_s g _ u hu
  obtain ⟨e4, he4⟩ : ∃ e, e = s4.2 := ⟨_, rfl⟩
  rw [← he4] at HER h2 HA
  clear hw1 hn hs1 hk hs2 hb hs3 hd hs4 he4
  by_cases hbig : 1048576 < n
  · rw [if_pos hbig] at HA
    rw [HA.out]
    have L0' := Lib.hid L0
    go_enter Tryz.func103, Tryz.ntmps103
    go_upto_region 1 with fail
    rw [← HW1.out]
    obtain ⟨c0, c1, f0, f1⟩ := L0.cells
    clear L0
    go_wp2_with (go_at_call 86; (with_reducible refine (HN4.out _ L0'.out.rd).mono ?_); rintro e w2 ⟨rfl, hr, ht⟩; have L1 := L0'.out.step hr ht; obtain ⟨c0, c1, f0, f1⟩ := L1.cells)
    refine bodyPost_ret (results_rc2 rfl _ _ _ _ _ rfl (L1.out 0 ⟨#[]⟩).1) rfl ?_
    exact ⟨rfl, (L1.out 0 ⟨#[]⟩).2⟩
  rw [if_neg hbig] at HA
  have L0' := Lib.hid L0
  go_enter Tryz.func103, Tryz.ntmps103
  go_upto_region 1 with fail
  rw [← HW1.out]
  clear L0
  go_upto_region 6 with (first
    | (go_at_call 86; (with_reducible refine (HN4'.out _ L4.out.ls.rd).mono ?_); rintro e w5 ⟨rfl, hr, ht⟩; have L5 := Lib.hid (L4.out.step hr ht); clear hr ht L4)
    | (go_at_call 104; (with_reducible refine (HRW.out _ L2.out.rd).mono ?_); rintro e w4 ⟨rfl, hr, ht⟩; have L3 := L2.out.step hr ht; have L4 := Lib.hid (LA.start L3 k (oct.tx b)); clear hr ht L2 L3)
    | (go_at_call 86; (with_reducible refine (HN1.out _ L1.out.rd).mono ?_); rintro e w3 ⟨rfl, hr, ht⟩; have L2 := Lib.hid (L1.out.step hr ht); clear hr ht L1)
    | (go_at_call 86; (with_reducible refine (HN4.out _ L0'.out.rd).mono ?_); rintro e w2 ⟨rfl, hr, ht⟩; have L1 := Lib.hid (L0'.out.step hr ht); clear hr ht))
  rcases h2 with h2 | h2
  case inr =>
    have h2d : (e4 != 0) = true := by rw [h2]; rfl
    rw [if_pos (by rw [h2]; decide)] at HA
    obtain ⟨c0, c1, f0, f1⟩ := L5.out.ls.cells
    go_wp2_with (go_at_call 99; (with_reducible refine (HER.out _ L5.out.ls.rd).mono ?_); rintro e w6 ⟨rfl, rfl⟩)
    subst h2
    refine bodyPost_ret (results_rc2 rfl _ _ _ _ _ rfl (L5.out.ls.out 0 ⟨#[]⟩).1) rfl ?_
    rw [HA.out]
    exact ⟨rfl, (L5.out.ls.out 0 ⟨#[]⟩).2⟩
  subst h2
  rw [if_neg (by decide)] at HA
  by_cases hk : k < 1 ∨ 3 < k
  · rw [if_pos hk] at HA
    have HK := Lib.hid fun u => iskind_no k hk u
    obtain ⟨c0, c1, f0, f1⟩ := L5.out.ls.cells
    obtain ⟨a0, a1⟩ := L5.out.cells
    clear hk
    go_wp2_with (first
      | (go_at_call 99; (with_reducible refine (HER.out _ L5.out.ls.rd).mono ?_); rintro e w6 ⟨rfl, rfl⟩)
      | (go_at_call 77; (with_reducible refine (HK.out _).mono ?_); rintro e w7 ⟨rfl, rfl⟩))
    refine bodyPost_ret (results_rc2 rfl _ _ _ _ _ rfl (L5.out.ls.out 0 ⟨#[]⟩).1) rfl ?_
    rw [HA.out]
    exact ⟨rfl, (L5.out.ls.out 0 ⟨#[]⟩).2⟩
  rw [if_neg hk] at HA
  have hk' : 1 ≤ k ∧ k ≤ 3 := by omega
  have HK := Lib.hid fun u => iskind_yes k hk' u
  have HSM := Lib.hid fun u (hu : crc.Tab u) => sum_any k b hk' (by omega) u hu
  simp only [recv] at HSM
  obtain ⟨a0, a1⟩ := L5.out.cells
  have hsr := sumI_lt ⟨k, b⟩
  obtain ⟨z, hz⟩ : ∃ z, z = sumI ⟨k, b⟩ := ⟨_, rfl⟩
  rw [← hz] at HSM HA
  clear hz hk hk' hsr
  by_cases hzd : z = d
  · rw [if_neg (fun h => h hzd)] at HA
    have hdd : (d != z) = false := by rw [hzd]; simp
    clear hzd
    go_wp2_with (first
      | (go_at_call 99; (with_reducible refine (HER.out _ L5.out.ls.rd).mono ?_); rintro e w6 ⟨rfl, rfl⟩)
      | (go_at_call 77; (with_reducible refine (HK.out _).mono ?_); rintro e w7 ⟨rfl, rfl⟩)
      | (go_at_call 79; (with_reducible refine (HSM.out _ L5.out.ls.tab).mono ?_); rintro e w8 ⟨rfl, hb8⟩; have L6 := L5.out.next hb8; obtain ⟨c0, c1, f0, f1⟩ := L6.ls.cells; obtain ⟨a0', a1'⟩ := L6.cells))
    refine bodyPost_ret (results_rc2 rfl _ _ _ _ _ rfl (L6.ls.out k (oct.tx b)).1) rfl ?_
    rw [HA.out]
    exact ⟨rfl, (L6.ls.out k (oct.tx b)).2⟩
  · rw [if_pos hzd] at HA
    have hdd : (d != z) = true := by simpa using fun h => hzd h.symm
    clear hzd
    go_wp2_with (first
      | (go_at_call 99; (with_reducible refine (HER.out _ L5.out.ls.rd).mono ?_); rintro e w6 ⟨rfl, rfl⟩)
      | (go_at_call 77; (with_reducible refine (HK.out _).mono ?_); rintro e w7 ⟨rfl, rfl⟩)
      | (go_at_call 79; (with_reducible refine (HSM.out _ L5.out.ls.tab).mono ?_); rintro e w8 ⟨rfl, hb8⟩; have L6 := L5.out.next hb8; obtain ⟨c0, c1, f0, f1⟩ := L6.ls.cells))
    refine bodyPost_ret (results_rc2 rfl _ _ _ _ _ rfl (L6.ls.out 0 ⟨#[]⟩).1) rfl ?_
    rw [HA.out]
    exact ⟨rfl, (L6.ls.out 0 ⟨#[]⟩).2⟩
end Go.Proofs.YtkbbeioednhefaaGreatDoor.rcd
