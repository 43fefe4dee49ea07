/-
  Contracts of package octet: Writer.Text.
-/
import Derived.Test.YtbfjljbllfjicaaWrl
namespace Go.Proofs.Ytbfjljbllfjicaa.oct
open Go.RowKit Go.Proofs.Ytbfjljbllfjicaa.mem

theorem text_stuck (p : Option Addr) (e0 : Int) (s : ByteArray) (w : World) (h : WFault w p e0) (h0 : e0 ≠ 0) :
    Calls Try.prog 22 #[.pointer p, .string s] w fun e w' => e = .returned (.pointer p) ∧ Below w.heap.size w w' := by
  have hd : (e0 != 0) = true := by simpa using h0
  have H0 := Lib.hid h0
  clear h0
  go_enter_defers Try.func22, Try.ntmps22
  go_wp2_with (go_at_call 43; refine (fault_any _ _ _ h).mono ?_; rintro e w' ⟨rfl, rfl⟩)
  refine leaves_cons (f := 44) (args := #[.pointer p, .pointer (some ⟨w.heap.size, 0, none⟩)]) (by simp) (by simp [go_sem]) ?_
  have hb : Below w.heap.size w (w.alloc (.cells #[.int .i64 e0] 26)) := (Below.refl _ _).alloc (Nat.le_refl _) _
  refine (keep_still p _ e0 e0 .returning _ (h.block hb) ?_ (.inl H0.out)).mono ?_
  · exact (Blk.new w 26 #[.int .i64 e0]).cell 0
  rintro e u' w'' ⟨rfl, rfl, rfl⟩
  exact ⟨_, results_tmp rfl _ _ _, rfl, hb⟩
theorem text_long (F : Nat → Prop) (g : Nat) (out : List UInt8) (s : ByteArray) (w : World) (h : WrIs w F g out 0) (hn : New F w) (hb : 65535 < s.size) :
    Calls Try.prog 22 #[.pointer (some ⟨g, 0, none⟩), .string s] w fun e w' => e = .returned (.pointer (some ⟨g, 0, none⟩)) ∧ WrIs w' F g [] 3 ∧ Turn F w w' := by
  obtain ⟨v, hw, ho, hF⟩ := h
  go_enter_defers Try.func22, Try.ntmps22
  go_wp2_with (go_at_call 43; refine (fault_ok _ _ _ _ hw).mono ?_; rintro e w' ⟨rfl, rfl⟩)
  refine leaves_cons (f := 44) (args := #[.pointer (some ⟨g, 0, none⟩), .pointer (some ⟨w.heap.size, 0, none⟩)]) (by simp) (by simp [go_sem]) ?_
  have hw1 : WBlk (w.alloc (.cells #[.int .i64 3] 26)) g v 0 := Blk.alloc hw _
  refine (keep_sets g ⟨w.heap.size, 0, none⟩ v 3 .returning _ hw1 ?_ (by decide)).mono ?_
  · exact (Blk.new w 26 #[.int .i64 3]).cell 0
  rintro e u' w'' ⟨rfl, rfl, rfl⟩
  exact ⟨_, results_tmp rfl _ _ _, rfl, WrIs.dropped hw1 hF 3, (((Turn.refl F w).alloc hn _).setCell hF _).setCell hF _⟩
theorem text_good (F : Nat → Prop) (g : Nat) (out : List UInt8) (s : ByteArray) (w : World) (h : WrIs w F g out 0) (hn : New F w) (hl : out.length + 2 + s.size ≤ 140737488355328) (hb : s.size ≤ 65535) :
    Calls Try.prog 22 #[.pointer (some ⟨g, 0, none⟩), .string s] w fun e w' => e = .returned (.pointer (some ⟨g, 0, none⟩)) ∧ WrIs w' F g (out ++ textBytes s) 0 ∧ Turn F w w' := by
  obtain ⟨v, hw, ho, hF⟩ := h
  have hw0 : WBlk (w.alloc (.cells #[.int .i64 0] 26)) g v 0 := Blk.alloc hw _
  have c1 := hw0.c1
  have hlt := Blk.lt hw
  go_enter_defers Try.func22, Try.ntmps22
  go_wp2_with (first
    | (go_at_call 43; refine (fault_ok _ _ _ _ hw).mono ?_; rintro e w' ⟨rfl, rfl⟩)
    | (go_at_call 46; go_must (refine (app2 (Row (w.alloc (.cells #[.int .i64 0] 26)) v) v _ _ _ _ (ho.alloc _).row (Row.new _ _) (by omega) (by omega) (by omega)).mono ?_); rintro e w1 ⟨v1, rfl, ho1, ht1⟩)
    | (at_builtin; go_must (refine wp_append_str rfl (.tmp 16) (.tmp 17) rfl (Row (w.alloc (.cells #[.int .i64 0] 26)) v) _ v1 _ _ rfl ho1 s rfl (by omega) ((Row.new _ _).turn ht1) ?_); intro v2 w2 ho2 ht2; obtain ⟨ad2, k2, cc2, rfl⟩ := ho2.form; have hw2 : WBlk w2 g v 0 := Blk.turn hw0 (ht1.trans ht2) (Row.not (ho.alloc _) hw0); have d1 := hw2.c1; have f1 : w2.frozen? ⟨g, 1, none⟩ = false := Blk.frozen hw2 1))
  have ht := ht1.trans ht2
  refine leaves_cons (f := 44) (args := #[.pointer (some ⟨g, 0, none⟩), .pointer (some ⟨w.heap.size, 0, none⟩)]) (by simp) (by simp [go_sem]) ?_
  have hE : Blk (w.alloc (.cells #[.int .i64 0] 26)) w.heap.size 26 #[.int .i64 0] := Blk.new w _ _
  have hE1 : Blk w2 w.heap.size 26 #[.int .i64 0] := Blk.turn hE ht (by
    rintro (hk | hk)
    · exact (ho.alloc _).ne_ hE (by decide) hk
    · simp at hk; omega)
  have ho2' : Owns w2 (Row (w.alloc (.cells #[.int .i64 0] 26)) v) (.slice ad2 k2 cc2) (out.length + 1 + 1 + s.size) (bCells (out ++ textBytes s)) := by
    unfold textBytes
    rw [bCells_append, bCells_append, be2 _ (by omega) (by omega)]
    rw [strCells_eq] at ho2
    simpa [List.append_assoc] using ho2
  have hS : WrIs (w2.setCell ⟨g, 1, none⟩ (.slice ad2 k2 cc2)) F g (out ++ textBytes s) 0 := WrIs.stored hw0 (ho.alloc _) (hn.alloc _) hF ho2' ht (by
    have e : s.data.toList.length = s.size := by rw [Array.length_toList]; rfl
    simp only [textBytes, be, List.length_append, e]; simp; omega)
  refine (keep_still _ ⟨w.heap.size, 0, none⟩ 0 0 .returning _ hS.fault ?_ (.inr rfl)).mono ?_
  · exact (Blk.far hE1 (p := ⟨g, 1, none⟩) (by simp; omega) _).cell 0
  rintro e u' w'' ⟨rfl, rfl, rfl⟩
  exact ⟨_, results_tmp rfl _ _ _, rfl, hS, (((Turn.refl F w).alloc hn _).trans (ht.mono (Row.sub (ho.alloc _) (hn.alloc _)))).setCell hF _⟩
theorem text_any (F : Nat → Prop) (g : Nat) (out : List UInt8) (err : Int) (s : ByteArray) (w : World) (h : WrIs w F g out err) (hn : New F w) (hl : err = 0 → s.size ≤ 65535 → out.length + 2 + s.size ≤ 140737488355328) :
    Calls Try.prog 22 #[.pointer (some ⟨g, 0, none⟩), .string s] w fun e w' => e = .returned (.pointer (some ⟨g, 0, none⟩)) ∧ WrIs w' F g (wText (out, err) s).1 (wText (out, err) s).2 ∧ Turn F w w' := by
  by_cases he : err = 0
  · subst he
    by_cases hs : 65535 < s.size
    · have e2 : wText (out, 0) s = ([], 3) := by unfold wText; rw [if_neg (by simp), if_pos hs]
      rw [e2]
      exact text_long F g out s w h hn hs
    · have e2 : wText (out, 0) s = (out ++ textBytes s, 0) := by unfold wText; rw [if_neg (by simp), if_neg hs]
      rw [e2]
      exact text_good F g out s w h hn (hl rfl (by omega)) (by omega)
  · have e2 : wText (out, err) s = (out, err) := by unfold wText; rw [if_pos he]
    rw [e2]
    exact (text_stuck _ err s w h.fault he).mono fun e w' ⟨h1, h2⟩ => ⟨h1, h.fresh h2, Turn.fresh h2 hn⟩
end Go.Proofs.Ytbfjljbllfjicaa.oct
