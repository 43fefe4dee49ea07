/-
  Contracts of package octet's Writer, the rest: Text, Raw, Done.
  octet's Writer: numbers and raw bytes behind what was written.
  The landed record: isKind, Size, sum.
-/
import Derived.Test.YtkbbeioednhefaaDoorOctw
import Derived.Laws.IdiomStrings
import Derived.Laws.BytesArg
import Derived.Test.YtkbbeioednhefaaDoorOpp
import Derived.Test.YtkbbeioednhefaaDoorOctb
import Derived.Test.YtkbbeioednhefaaDoorKitc
import Derived.Test.YtkbbeioednhefaaDoorRdl
namespace Go.Proofs.YtkbbeioednhefaaDoor.oct
open Go.RowKit Go.Proofs.YtkbbeioednhefaaDoor.mem

theorem raw_stuck (p : Option Addr) (e0 : Int) (s : ByteArray) (w : World) (h : WFault w p e0) (h0 : e0 ≠ 0) :
    Calls Tryd.prog 62 #[.pointer p, .string s] w fun e w' => e = .returned (.pointer p) ∧ w = w' := by
  have hd : (e0 == 0) = false := by simpa using h0
  clear h0
  go_enter Tryd.func62, Tryd.ntmps62
  go_wp2_with (go_at_call 78; refine (fault_any _ _ _ h).mono ?_; rintro e w' ⟨rfl, rfl⟩)
  go_ret
  exact ⟨rfl, rfl⟩
theorem raw_good (F : Nat → Prop) (g : Nat) (out : List UInt8) (s : ByteArray) (w : World) (h : WrIs w F g out 0) (hn : New F w) (hl : out.length + s.size ≤ 140737488355328) :
    Calls Tryd.prog 62 #[.pointer (some ⟨g, 0, none⟩), .string s] w fun e w' => e = .returned (.pointer (some ⟨g, 0, none⟩)) ∧ WrIs w' F g (out ++ s.data.toList) 0 ∧ Turn F w w' := by
  obtain ⟨v, hw, ho, hF⟩ := h
  have c1 := hw.c1
  go_enter Tryd.func62, Tryd.ntmps62
  go_wp2_with (first
    | (go_at_call 78; refine (fault_ok _ _ _ _ hw).mono ?_; rintro e w' ⟨rfl, rfl⟩)
    | (at_builtin; go_must (refine wp_append_str rfl (.tmp 12) (.tmp 13) rfl (Row w v) _ v _ _ rfl ho.row s rfl hl (Row.new _ _) ?_); intro v2 w2 ho2 ht; obtain ⟨ad2, k2, cc2, rfl⟩ := ho2.form; have hw2 : WBlk w2 g v 0 := Blk.turn hw ht (Row.not ho hw); have d1 := hw2.c1; have f1 : w2.frozen? ⟨g, 1, none⟩ = false := Blk.frozen hw2 1))
  go_ret
  have ho2' : Owns w2 (Row w v) (.slice ad2 k2 cc2) (out.length + s.size) (bCells (out ++ s.data.toList)) := by
    rw [bCells_append]
    exact ho2
  have e : s.data.toList.length = s.size := by rw [Array.length_toList]; rfl
  exact ⟨rfl, WrIs.stored hw ho hn hF ho2' ht (by rw [List.length_append, e]), (ht.mono (Row.sub ho hn)).setCell hF _⟩
theorem done_stuck (p : Option Addr) (e0 : Int) (w : World) (h : WFault w p e0) (h0 : e0 ≠ 0) :
    Calls Tryd.prog 64 #[.pointer p] w fun e w' => e = .returned (.tuple #[.string ⟨#[]⟩, .int .i64 e0]) ∧ w = w' := by
  have hd : (e0 != 0) = true := by simpa using h0
  clear h0
  go_enter Tryd.func64, Tryd.ntmps64
  go_wp2_with (go_at_call 78; refine (fault_any _ _ _ h).mono ?_; rintro e w' ⟨rfl, rfl⟩)
  go_ret2
  exact ⟨rfl, rfl⟩
theorem done_good (F : Nat → Prop) (g : Nat) (out : List UInt8) (w : World) (h : WrIs w F g out 0) :
    Calls Tryd.prog 64 #[.pointer (some ⟨g, 0, none⟩)] w fun e w' => e = .returned (.tuple #[.string ⟨out.toArray⟩, .int .i64 0]) ∧ w = w' := by
  obtain ⟨v, hw, ho, hF⟩ := h
  have c1 := hw.c1
  have hcv := ho.string
  go_enter Tryd.func64, Tryd.ntmps64
  go_wp2_with (go_at_call 78; refine (fault_ok _ _ _ _ hw).mono ?_; rintro e w' ⟨rfl, rfl⟩)
  go_ret2
  exact ⟨rfl, rfl⟩
theorem raw_any (F : Nat → Prop) (g : Nat) (out : List UInt8) (err : Int) (s : ByteArray) (w : World) (h : WrIs w F g out err) (hn : New F w) (hl : err = 0 → out.length + s.size ≤ 140737488355328) :
    Calls Tryd.prog 62 #[.pointer (some ⟨g, 0, none⟩), .string s] w fun e w' => e = .returned (.pointer (some ⟨g, 0, none⟩)) ∧ WrIs w' F g (wRaw (out, err) s).1 (wRaw (out, err) s).2 ∧ Turn F w w' := by
  by_cases he : err = 0
  · subst he
    have e2 : wRaw (out, 0) s = (out ++ s.data.toList, 0) := by unfold wRaw; rw [if_neg (by simp)]
    rw [e2]
    exact raw_good F g out s w h hn (hl rfl)
  · have e2 : wRaw (out, err) s = (out, err) := by unfold wRaw; rw [if_pos he]
    rw [e2]
    refine (raw_stuck _ err s w h.fault he).mono fun e w' ⟨h1, h2⟩ => ?_
    subst h2
    exact ⟨h1, h, Turn.refl _ _⟩
theorem done_any (F : Nat → Prop) (g : Nat) (out : List UInt8) (err : Int) (w : World) (h : WrIs w F g out err) :
    Calls Tryd.prog 64 #[.pointer (some ⟨g, 0, none⟩)] w fun e w' => e = .returned (.tuple #[.string (wDone (out, err)).1, .int .i64 (wDone (out, err)).2]) ∧ w = w' := by
  by_cases he : err = 0
  · subst he
    have e2 : wDone (out, 0) = (⟨out.toArray⟩, 0) := by unfold wDone; rw [if_neg (by simp)]
    rw [e2]
    exact done_good F g out w h
  · have e2 : wDone (out, err) = (⟨#[]⟩, err) := by unfold wDone; rw [if_pos he]
    rw [e2]
    exact done_stuck _ err w h.fault he
end Go.Proofs.YtkbbeioednhefaaDoor.oct

namespace Go.Proofs.YtkbbeioednhefaaDoor.opn
open Go.RowKit Go.Proofs.YtkbbeioednhefaaDoor.mem

theorem lcalls_at {P : Program} {f : FuncId} {args : Array Value} {w w' : World} {Q : Ending → World → Prop} (h : w = w') (k : Calls P f args w' Q) : Calls P f args w Q := h ▸ k
theorem be_b1 (n : Int) : oct.be n 1 = b1 n := rfl
theorem be_b4 (n : Int) : oct.be n 4 = b4 n := rfl
theorem wNum1 (out : List UInt8) (n : Int) (h0 : 0 ≤ n) (h1 : n < 256) : oct.wNum (out, 0) n 1 = (out ++ b1 n, 0) := by
  have e : oct.numErr n 1 = 0 := by
    unfold oct.numErr
    rw [if_neg (by decide), if_neg (by rw [if_pos rfl]; omega)]
  unfold oct.wNum
  rw [if_neg (fun h => h rfl), if_neg (fun h => h e), be_b1]
theorem wNum4 (out : List UInt8) (n : Int) (h0 : 0 ≤ n) (h1 : n < 4294967296) : oct.wNum (out, 0) n 4 = (out ++ b4 n, 0) := by
  have e : oct.numErr n 4 = 0 := by
    unfold oct.numErr
    rw [if_neg (by decide), if_neg (by rw [if_neg (by decide), if_neg (by decide)]; omega)]
  unfold oct.wNum
  rw [if_neg (fun h => h rfl), if_neg (fun h => h e), be_b4]
theorem wnum1_s (F : Nat → Prop) (g : Nat) (out : List UInt8) (n : Int) (h0 : 0 ≤ n) (h1 : n < 256) (w : World) (h : oct.WrIs w F g out 0) (hn : New F w) (hl : out.length ≤ 100000) :
    Calls Tryd.prog 61 #[.pointer (some ⟨g, 0, none⟩), .int .i64 n, .int .i64 1] w fun e w' => e = .returned (.pointer (some ⟨g, 0, none⟩)) ∧ oct.WrIs w' F g (out ++ b1 n) 0 ∧ Turn F w w' := by
  have := oct.num_any F g out 0 n 1 w h hn (by omega) (by omega)
  rw [wNum1 out n h0 h1] at this
  exact this
theorem wnum4_s (F : Nat → Prop) (g : Nat) (out : List UInt8) (n : Int) (h0 : 0 ≤ n) (h1 : n < 4294967296) (w : World) (h : oct.WrIs w F g out 0) (hn : New F w) (hl : out.length ≤ 100000) :
    Calls Tryd.prog 61 #[.pointer (some ⟨g, 0, none⟩), .int .i64 n, .int .i64 4] w fun e w' => e = .returned (.pointer (some ⟨g, 0, none⟩)) ∧ oct.WrIs w' F g (out ++ b4 n) 0 ∧ Turn F w w' := by
  have := oct.num_any F g out 0 n 4 w h hn (by omega) (by omega)
  rw [wNum4 out n h0 h1] at this
  exact this
theorem wraw_s (F : Nat → Prop) (g : Nat) (out : List UInt8) (s : ByteArray) (w : World) (h : oct.WrIs w F g out 0) (hn : New F w) (hl : out.length ≤ 100000) (hs : s.size ≤ 100000) :
    Calls Tryd.prog 62 #[.pointer (some ⟨g, 0, none⟩), .string s] w fun e w' => e = .returned (.pointer (some ⟨g, 0, none⟩)) ∧ oct.WrIs w' F g (out ++ s.data.toList) 0 ∧ Turn F w w' := by
  have := oct.raw_any F g out 0 s w h hn (fun _ => by omega)
  rw [show oct.wRaw (out, 0) s = (out ++ s.data.toList, 0) by unfold oct.wRaw; rw [if_neg (fun h => h rfl)]] at this
  exact this
theorem be_b2 (n : Int) : oct.be n 2 = b2 n := rfl
theorem wNum2 (out : List UInt8) (n : Int) (h0 : 0 ≤ n) (h1 : n < 65536) : oct.wNum (out, 0) n 2 = (out ++ b2 n, 0) := by
  have e : oct.numErr n 2 = 0 := by
    unfold oct.numErr
    rw [if_neg (by decide), if_neg (by rw [if_neg (by decide), if_pos rfl]; omega)]
  unfold oct.wNum
  rw [if_neg (fun h => h rfl), if_neg (fun h => h e), be_b2]
theorem wnum2_s (F : Nat → Prop) (g : Nat) (out : List UInt8) (n : Int) (h0 : 0 ≤ n) (h1 : n < 65536) (w : World) (h : oct.WrIs w F g out 0) (hn : New F w) (hl : out.length ≤ 100000) :
    Calls Tryd.prog 61 #[.pointer (some ⟨g, 0, none⟩), .int .i64 n, .int .i64 2] w fun e w' => e = .returned (.pointer (some ⟨g, 0, none⟩)) ∧ oct.WrIs w' F g (out ++ b2 n) 0 ∧ Turn F w w' := by
  have := oct.num_any F g out 0 n 2 w h hn (by omega) (by omega)
  rw [wNum2 out n h0 h1] at this
  exact this
theorem WrIs.sub {w : World} {F G : Nat → Prop} {g : Nat} {out : List UInt8} {err : Int} (h : oct.WrIs w F g out err) (hG : ∀ b, b < w.heap.size → F b → G b) : oct.WrIs w G g out err := by
  obtain ⟨v, hb, ho, hg⟩ := h
  exact ⟨v, hb, ⟨ho.1, fun k hk => hG k (ho.lt hk) (ho.2 k hk)⟩, hG g (Blk.lt hb) hg⟩
theorem WrIs.new {w : World} {F : Nat → Prop} {g : Nat} (h : oct.WBlk w g (.slice none 0 0) 0) (hF : F g) : oct.WrIs w F g [] 0 := ⟨_, h, Owns.nil _ _, hF⟩
end Go.Proofs.YtkbbeioednhefaaDoor.opn

namespace Go.Proofs.YtkbbeioednhefaaDoor.rcd
open Go.RowKit Go.Proofs.YtkbbeioednhefaaDoor.mem Go.Proofs.YtkbbeioednhefaaDoor.sha Go.Proofs.YtkbbeioednhefaaDoor.opn

theorem iskind_yes (k : Int) (h : 1 ≤ k ∧ k ≤ 3) (w : World) : Calls Tryd.prog 59 #[.int .i64 k] w fun e w' => e = .returned (.bool true) ∧ w = w' := by
  have h3 : k = 1 ∨ k = 2 ∨ k = 3 := by omega
  clear h
  rcases h3 with rfl | rfl | rfl
  all_goals
    go_enter Tryd.func59, Tryd.ntmps59
    go_wp2_with fail
    go_ret
    exact ⟨rfl, rfl⟩
theorem iskind_no (k : Int) (h : k < 1 ∨ 3 < k) (w : World) : Calls Tryd.prog 59 #[.int .i64 k] w fun e w' => e = .returned (.bool false) ∧ w = w' := by
  have h1 : (k == 1) = false := by rw [beq_eq_false_iff_ne]; omega
  have h2 : (k == 2) = false := by rw [beq_eq_false_iff_ne]; omega
  have h3 : (k == 3) = false := by rw [beq_eq_false_iff_ne]; omega
  clear h
  go_enter Tryd.func59, Tryd.ntmps59
  go_wp2_with fail
  go_ret
  exact ⟨rfl, rfl⟩
theorem size_any (n : Int) (hn : n ≤ 1000000000) (w : World) : Calls Tryd.prog 75 #[.int .i64 n] w fun e w' => e = .returned (.int .i64 (sizeR n)) ∧ w = w' := by
  unfold sizeR
  by_cases h0 : n < 0
  · rw [if_pos h0]
    go_enter Tryd.func75, Tryd.ntmps75
    go_wp2_with fail
    go_ret
    exact ⟨rfl, rfl⟩
  · rw [if_neg h0]
    have hm : min n 9223372036854775798 = n := by omega
    have hw : IntKind.i64.wrap (n + 9) = n + 9 := by rw [IntKind.wrap_i64]; omega
    go_enter Tryd.func75, Tryd.ntmps75
    go_wp2_with fail
    go_ret
    exact ⟨rfl, rfl⟩
theorem tab_turn {F : Nat → Prop} {w w' : World} (h : crc.Tab w) (ht : Turn F w w') (h0 : ¬ F 0) : crc.Tab w' :=
  ⟨Nat.le_trans h.1 ht.size, fun j hj => by
    have := h.2 j hj
    rw [World.cell?_of_block (w := w) (w' := w') (a := ⟨0, j, none⟩) (ht.block 0 h0)]
    exact this⟩
set_option maxHeartbeats 2000000 in
set_option maxRecDepth 100000 in
theorem sum_any (k : Int) (b : List UInt8) (hk : 1 ≤ k ∧ k ≤ 3) (hb : b.length ≤ 1000000000) (w : World) (hT : crc.Tab w) :
    Calls Tryd.prog 63 #[recv ⟨k, b⟩] w fun e w' => e = .returned (.int .i64 (sumI ⟨k, b⟩)) ∧ Below w.heap.size w w' := by
  obtain ⟨h1, h2⟩ := hk
  have hts := oct.tx_size b
  have htl := oct.tx_list b
  unfold recv
  obtain ⟨t, ht⟩ : ∃ t, t = oct.tx b := ⟨_, rfl⟩
  simp only
  rw [← ht] at hts htl ⊢
  have kw : IntKind.u8.wrap k = k := by rw [show IntKind.u8.wrap k = k % 256 from rfl]; omega
  have hcv := conv_k (w.alloc (.cells #[.int .i64 k, .string t] 39)) k (by omega)
  rw [show (w.alloc (.cells #[.int .i64 k, .string t] 39)).heap.size = w.heap.size + 1 by simp] at hcv
  have hb2 : Below w.heap.size w ((w.alloc (.cells #[.int .i64 k, .string t] 39)).alloc (.cells #[.int .u8 k] 5)) := ((Below.refl _ _).alloc (Nat.le_refl _) _).alloc (by simp) _
  have HS := Lib.hid (crc.sum_walk (oct.tx (b1 k)) _ (hT.next hb2) (by rw [oct.tx_size, b1_len]; decide))
  have HA := Lib.hid (crc.add_walk (crc.addC 0 (b1 k)) t _ (hT.next hb2) (by omega))
  rw [htl, crc.addC_append] at HA
  rw [oct.tx_list] at HS
  have hz := sumI_lt ⟨k, b⟩
  have hze : U (crc.addC 0 (b1 k ++ b)) = sumI ⟨k, b⟩ := rfl
  rw [hze] at HA
  obtain ⟨z, hz2⟩ : ∃ z, z = sumI ⟨k, b⟩ := ⟨_, rfl⟩
  rw [← hz2] at HA hz ⊢
  obtain ⟨z0, z1⟩ := hz
  have zw : IntKind.i64.wrap z = z := by rw [IntKind.wrap_i64]; omega
  obtain ⟨q, hq⟩ : ∃ q, q = oct.tx (b1 k) := ⟨_, rfl⟩
  rw [← hq] at HS hcv
  obtain ⟨c, hc⟩ : ∃ c, c = U (crc.addC 0 (b1 k)) := ⟨_, rfl⟩
  rw [← hc] at HS HA
  have HB := Lib.hid hb2
  clear hts htl ht hb2 hze hz2 hq hc hT hb
  go_enter Tryd.func63, Tryd.ntmps63
  go_wp2_with (first
    | (go_at_call 82; (with_reducible refine HS.out.mono ?_); rintro e w1 ⟨rfl, rfl⟩)
    | (go_at_call 83; (with_reducible refine HA.out.mono ?_); rintro e w2 ⟨rfl, rfl⟩))
  go_ret
  exact ⟨rfl, HB.out⟩
end Go.Proofs.YtkbbeioednhefaaDoor.rcd
