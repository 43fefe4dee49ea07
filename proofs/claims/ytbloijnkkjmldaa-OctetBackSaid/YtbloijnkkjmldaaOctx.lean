/-
  Contracts of package octet's Writer, the rest: Text, Raw, Done.
-/
import Derived.Test.YtbloijnkkjmldaaOctw
import Derived.Laws.IdiomStrings
import Derived.Laws.BytesArg
namespace Go.Proofs.Ytbloijnkkjmldaa.oct
open Go.RowKit

theorem text_stuck (p : Option Addr) (e0 : Int) (s : ByteArray) (w : World) (h : WFault w p e0) (h0 : e0 ≠ 0) :
    Calls Try.prog 12 #[.pointer p, .string s] w fun e w' => e = .returned (.pointer p) ∧ Below w.heap.size w w' := by
  have hd : (e0 != 0) = true := by simpa using h0
  have H0 := Lib.hid h0
  clear h0
  go_enter_defers Try.func12, Try.ntmps12
  go_wp2_with (go_at_call 27; refine (fault_any _ _ _ h).mono ?_; rintro e w' ⟨rfl, rfl⟩)
  refine leaves_cons (f := 28) (args := #[.pointer p, .pointer (some ⟨w.heap.size, 0, none⟩)]) (by simp) (by simp [go_sem]) ?_
  have hb : Below w.heap.size w (w.alloc (.cells #[.int .i64 e0] 32)) := (Below.refl _ _).alloc (Nat.le_refl _) _
  refine (keep_still p _ e0 e0 .returning _ (h.block hb) ?_ (.inl H0.out)).mono ?_
  · exact (Blk.new w 32 #[.int .i64 e0]).cell 0
  rintro e u' w'' ⟨rfl, rfl, rfl⟩
  exact ⟨_, results_tmp rfl _ _ _, rfl, hb⟩

theorem text_long (F : Nat → Prop) (g : Nat) (out : List UInt8) (s : ByteArray) (w : World) (h : WrIs w F g out 0) (hn : New F w) (hb : 65535 < s.size) :
    Calls Try.prog 12 #[.pointer (some ⟨g, 0, none⟩), .string s] w fun e w' => e = .returned (.pointer (some ⟨g, 0, none⟩)) ∧ WrIs w' F g [] 3 ∧ Turn F w w' := by
  obtain ⟨v, hw, ho, hF⟩ := h
  go_enter_defers Try.func12, Try.ntmps12
  go_wp2_with (go_at_call 27; refine (fault_ok _ _ _ _ hw).mono ?_; rintro e w' ⟨rfl, rfl⟩)
  refine leaves_cons (f := 28) (args := #[.pointer (some ⟨g, 0, none⟩), .pointer (some ⟨w.heap.size, 0, none⟩)]) (by simp) (by simp [go_sem]) ?_
  have hw1 : WBlk (w.alloc (.cells #[.int .i64 3] 32)) g v 0 := Blk.alloc hw _
  refine (keep_sets g ⟨w.heap.size, 0, none⟩ v 3 .returning _ hw1 ?_ (by decide)).mono ?_
  · exact (Blk.new w 32 #[.int .i64 3]).cell 0
  rintro e u' w'' ⟨rfl, rfl, rfl⟩
  exact ⟨_, results_tmp rfl _ _ _, rfl, WrIs.dropped hw1 hF 3, (((Turn.refl F w).alloc hn _).setCell hF _).setCell hF _⟩

def textBytes (s : ByteArray) : List UInt8 := be s.size 2 ++ s.data.toList

theorem text_good (F : Nat → Prop) (g : Nat) (out : List UInt8) (s : ByteArray) (w : World) (h : WrIs w F g out 0) (hn : New F w) (hl : out.length + 2 + s.size ≤ 140737488355328) (hb : s.size ≤ 65535) :
    Calls Try.prog 12 #[.pointer (some ⟨g, 0, none⟩), .string s] w fun e w' => e = .returned (.pointer (some ⟨g, 0, none⟩)) ∧ WrIs w' F g (out ++ textBytes s) 0 ∧ Turn F w w' := by
  obtain ⟨v, hw, ho, hF⟩ := h
  have hw0 : WBlk (w.alloc (.cells #[.int .i64 0] 32)) g v 0 := Blk.alloc hw _
  have c1 := hw0.c1
  have hlt := Blk.lt hw
  go_enter_defers Try.func12, Try.ntmps12
  go_wp2_with (first
    | (go_at_call 27; refine (fault_ok _ _ _ _ hw).mono ?_; rintro e w' ⟨rfl, rfl⟩)
    | (go_at_call 30; go_must (refine (app2 (Row (w.alloc (.cells #[.int .i64 0] 32)) v) v _ _ _ _ (ho.alloc _).row (Row.new _ _) (by omega) (by omega) (by omega)).mono ?_); rintro e w1 ⟨v1, rfl, ho1, ht1⟩)
    | (at_builtin; go_must (refine wp_append_str rfl (.tmp 16) (.tmp 17) rfl (Row (w.alloc (.cells #[.int .i64 0] 32)) v) _ v1 _ _ rfl ho1 s rfl (by omega) ((Row.new _ _).turn ht1) ?_); intro v2 w2 ho2 ht2; obtain ⟨ad2, k2, cc2, rfl⟩ := ho2.form; have hw2 : WBlk w2 g v 0 := Blk.turn hw0 (ht1.trans ht2) (Row.not (ho.alloc _) hw0); have d1 := hw2.c1; have f1 : w2.frozen? ⟨g, 1, none⟩ = false := Blk.frozen hw2 1))
  have ht := ht1.trans ht2
  refine leaves_cons (f := 28) (args := #[.pointer (some ⟨g, 0, none⟩), .pointer (some ⟨w.heap.size, 0, none⟩)]) (by simp) (by simp [go_sem]) ?_
  have hE : Blk (w.alloc (.cells #[.int .i64 0] 32)) w.heap.size 32 #[.int .i64 0] := Blk.new w _ _
  have hE1 : Blk w2 w.heap.size 32 #[.int .i64 0] := Blk.turn hE ht (by
    rintro (hk | hk)
    · exact (ho.alloc _).ne_ hE (by decide) hk
    · simp at hk; omega)
  have ho2' : Owns w2 (Row (w.alloc (.cells #[.int .i64 0] 32)) v) (.slice ad2 k2 cc2) (out.length + 1 + 1 + s.size) (bCells (out ++ textBytes s)) := by
    unfold textBytes
    rw [bCells_append, bCells_append, be2 _ (by omega) (by omega)]
    rw [strCells_eq] at ho2
    simpa [List.append_assoc] using ho2
  have hS : WrIs (w2.setCell ⟨g, 1, none⟩ (.slice ad2 k2 cc2)) F g (out ++ textBytes s) 0 := WrIs.stored hw0 (ho.alloc _) (hn.alloc _) hF ho2' ht (by
    have e : s.data.toList.length = s.size := by rw [Array.length_toList]; rfl
    simp only [textBytes, be, List.length_append, e]; simp; omega)
  refine (keep_still _ ⟨w.heap.size, 0, none⟩ 0 0 .returning _ hS.fault ?_ (.inr rfl)).mono ?_
  · exact (Blk.far hE1 (p := ⟨g, 1, none⟩) (by simp; omega) _).cell 0
  rintro e u' w'' ⟨rfl, rfl, rfl⟩
  exact ⟨_, results_tmp rfl _ _ _, rfl, hS, (((Turn.refl F w).alloc hn _).trans (ht.mono (Row.sub (ho.alloc _) (hn.alloc _)))).setCell hF _⟩

theorem raw_stuck (p : Option Addr) (e0 : Int) (s : ByteArray) (w : World) (h : WFault w p e0) (h0 : e0 ≠ 0) :
    Calls Try.prog 13 #[.pointer p, .string s] w fun e w' => e = .returned (.pointer p) ∧ w = w' := by
  have hd : (e0 == 0) = false := by simpa using h0
  clear h0
  go_enter Try.func13, Try.ntmps13
  go_wp2_with (go_at_call 27; refine (fault_any _ _ _ h).mono ?_; rintro e w' ⟨rfl, rfl⟩)
  go_ret
  exact ⟨rfl, rfl⟩

theorem raw_good (F : Nat → Prop) (g : Nat) (out : List UInt8) (s : ByteArray) (w : World) (h : WrIs w F g out 0) (hn : New F w) (hl : out.length + s.size ≤ 140737488355328) :
    Calls Try.prog 13 #[.pointer (some ⟨g, 0, none⟩), .string s] w fun e w' => e = .returned (.pointer (some ⟨g, 0, none⟩)) ∧ WrIs w' F g (out ++ s.data.toList) 0 ∧ Turn F w w' := by
  obtain ⟨v, hw, ho, hF⟩ := h
  have c1 := hw.c1
  go_enter Try.func13, Try.ntmps13
  go_wp2_with (first
    | (go_at_call 27; refine (fault_ok _ _ _ _ hw).mono ?_; rintro e w' ⟨rfl, rfl⟩)
    | (at_builtin; go_must (refine wp_append_str rfl (.tmp 12) (.tmp 13) rfl (Row w v) _ v _ _ rfl ho.row s rfl hl (Row.new _ _) ?_); intro v2 w2 ho2 ht; obtain ⟨ad2, k2, cc2, rfl⟩ := ho2.form; have hw2 : WBlk w2 g v 0 := Blk.turn hw ht (Row.not ho hw); have d1 := hw2.c1; have f1 : w2.frozen? ⟨g, 1, none⟩ = false := Blk.frozen hw2 1))
  go_ret
  have ho2' : Owns w2 (Row w v) (.slice ad2 k2 cc2) (out.length + s.size) (bCells (out ++ s.data.toList)) := by
    rw [bCells_append]
    exact ho2
  have e : s.data.toList.length = s.size := by rw [Array.length_toList]; rfl
  exact ⟨rfl, WrIs.stored hw ho hn hF ho2' ht (by rw [List.length_append, e]), (ht.mono (Row.sub ho hn)).setCell hF _⟩

theorem done_stuck (p : Option Addr) (e0 : Int) (w : World) (h : WFault w p e0) (h0 : e0 ≠ 0) :
    Calls Try.prog 14 #[.pointer p] w fun e w' => e = .returned (.tuple #[.string ⟨#[]⟩, .int .i64 e0]) ∧ w = w' := by
  have hd : (e0 != 0) = true := by simpa using h0
  clear h0
  go_enter Try.func14, Try.ntmps14
  go_wp2_with (go_at_call 27; refine (fault_any _ _ _ h).mono ?_; rintro e w' ⟨rfl, rfl⟩)
  go_ret2
  exact ⟨rfl, rfl⟩

theorem Owns.string {w : World} {F : Nat → Prop} {v : Value} {out : List UInt8} (h : Owns w F v out.length (bCells out)) :
    (convert 49 9 v).run Try.prog w = .ok (.string ⟨out.toArray⟩) w := by
  rcases h.1.2 with ⟨rfl, h0⟩ | ⟨g', cap, cur, rfl, _, hh, _⟩
  · have e : out = [] := List.eq_nil_of_length_eq_zero h0
    subst e
    exact run_convert_bytes_nil w 49 5 Try.underlying49 Try.underlying5 0 0 9 Try.underlying9
  · refine run_convert_bytes_back w 49 9 5 ⟨g', 0, none⟩ cap out Try.underlying49 Try.underlying5 Try.underlying9 fun j hj => ?_
    exact h.1.cells (g := g') rfl j _ (by simp [bCells, List.getElem?_eq_getElem hj])

theorem done_good (F : Nat → Prop) (g : Nat) (out : List UInt8) (w : World) (h : WrIs w F g out 0) :
    Calls Try.prog 14 #[.pointer (some ⟨g, 0, none⟩)] w fun e w' => e = .returned (.tuple #[.string ⟨out.toArray⟩, .int .i64 0]) ∧ w = w' := by
  obtain ⟨v, hw, ho, hF⟩ := h
  have c1 := hw.c1
  have hcv := ho.string
  go_enter Try.func14, Try.ntmps14
  go_wp2_with (go_at_call 27; refine (fault_ok _ _ _ _ hw).mono ?_; rintro e w' ⟨rfl, rfl⟩)
  go_ret2
  exact ⟨rfl, rfl⟩

def wText (st : List UInt8 × Int) (s : ByteArray) : List UInt8 × Int := if st.2 ≠ 0 then st else if 65535 < s.size then ([], 3) else (st.1 ++ textBytes s, 0)
def wRaw (st : List UInt8 × Int) (s : ByteArray) : List UInt8 × Int := if st.2 ≠ 0 then st else (st.1 ++ s.data.toList, 0)
def wDone (st : List UInt8 × Int) : ByteArray × Int := if st.2 ≠ 0 then (⟨#[]⟩, st.2) else (⟨st.1.toArray⟩, 0)

theorem text_any (F : Nat → Prop) (g : Nat) (out : List UInt8) (err : Int) (s : ByteArray) (w : World) (h : WrIs w F g out err) (hn : New F w) (hl : err = 0 → s.size ≤ 65535 → out.length + 2 + s.size ≤ 140737488355328) :
    Calls Try.prog 12 #[.pointer (some ⟨g, 0, none⟩), .string s] w fun e w' => e = .returned (.pointer (some ⟨g, 0, none⟩)) ∧ WrIs w' F g (wText (out, err) s).1 (wText (out, err) s).2 ∧ Turn F w w' := by
  by_cases he : err = 0
  · subst he
    by_cases hs : 65535 < s.size
    · have e2 : wText (out, 0) s = ([], 3) := by unfold wText; rw [if_neg (by simp), if_pos hs]
      rw [e2]
      exact text_long F g out s w h hn hs
    · have e2 : wText (out, 0) s = (out ++ textBytes s, 0) := by unfold wText; rw [if_neg (by simp), if_neg hs]
      rw [e2]
      exact text_good F g out s w h hn (hl rfl (by omega)) (by omega)
  · have e2 : wText (out, err) s = (out, err) := by unfold wText; rw [if_pos he]
    rw [e2]
    exact (text_stuck _ err s w h.fault he).mono fun e w' ⟨h1, h2⟩ => ⟨h1, h.fresh h2, Turn.fresh h2 hn⟩

theorem raw_any (F : Nat → Prop) (g : Nat) (out : List UInt8) (err : Int) (s : ByteArray) (w : World) (h : WrIs w F g out err) (hn : New F w) (hl : err = 0 → out.length + s.size ≤ 140737488355328) :
    Calls Try.prog 13 #[.pointer (some ⟨g, 0, none⟩), .string s] w fun e w' => e = .returned (.pointer (some ⟨g, 0, none⟩)) ∧ WrIs w' F g (wRaw (out, err) s).1 (wRaw (out, err) s).2 ∧ Turn F w w' := by
  by_cases he : err = 0
  · subst he
    have e2 : wRaw (out, 0) s = (out ++ s.data.toList, 0) := by unfold wRaw; rw [if_neg (by simp)]
    rw [e2]
    exact raw_good F g out s w h hn (hl rfl)
  · have e2 : wRaw (out, err) s = (out, err) := by unfold wRaw; rw [if_pos he]
    rw [e2]
    refine (raw_stuck _ err s w h.fault he).mono fun e w' ⟨h1, h2⟩ => ?_
    subst h2
    exact ⟨h1, h, Turn.refl _ _⟩

theorem done_any (F : Nat → Prop) (g : Nat) (out : List UInt8) (err : Int) (w : World) (h : WrIs w F g out err) :
    Calls Try.prog 14 #[.pointer (some ⟨g, 0, none⟩)] w fun e w' => e = .returned (.tuple #[.string (wDone (out, err)).1, .int .i64 (wDone (out, err)).2]) ∧ w = w' := by
  by_cases he : err = 0
  · subst he
    have e2 : wDone (out, 0) = (⟨out.toArray⟩, 0) := by unfold wDone; rw [if_neg (by simp)]
    rw [e2]
    exact done_good F g out w h
  · have e2 : wDone (out, err) = (⟨#[]⟩, err) := by unfold wDone; rw [if_pos he]
    rw [e2]
    exact done_stuck _ err w h.fault he
end Go.Proofs.Ytbloijnkkjmldaa.oct
