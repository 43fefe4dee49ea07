/-
  Contracts of package octet's Writer, the rest: Text, Raw, Done.
-/
import Derived.Test.YtlnpemnolldooaaDoorOctw
import Derived.Laws.IdiomStrings
import Derived.Laws.BytesArg
namespace Go.Proofs.YtlnpemnolldooaaDoor.oct
open Go.RowKit Go.Proofs.YtlnpemnolldooaaDoor.mem

theorem raw_stuck (p : Option Addr) (e0 : Int) (s : ByteArray) (w : World) (h : WFault w p e0) (h0 : e0 ≠ 0) :
    Calls Tryd.prog 40 #[.pointer p, .string s] w fun e w' => e = .returned (.pointer p) ∧ w = w' := by
  have hd : (e0 == 0) = false := by simpa using h0
  clear h0
  go_enter Tryd.func40, Tryd.ntmps40
  go_wp2_with (go_at_call 51; refine (fault_any _ _ _ h).mono ?_; rintro e w' ⟨rfl, rfl⟩)
  go_ret
  exact ⟨rfl, rfl⟩
theorem raw_good (F : Nat → Prop) (g : Nat) (out : List UInt8) (s : ByteArray) (w : World) (h : WrIs w F g out 0) (hn : New F w) (hl : out.length + s.size ≤ 140737488355328) :
    Calls Tryd.prog 40 #[.pointer (some ⟨g, 0, none⟩), .string s] w fun e w' => e = .returned (.pointer (some ⟨g, 0, none⟩)) ∧ WrIs w' F g (out ++ s.data.toList) 0 ∧ Turn F w w' := by
  obtain ⟨v, hw, ho, hF⟩ := h
  have c1 := hw.c1
  go_enter Tryd.func40, Tryd.ntmps40
  go_wp2_with (first
    | (go_at_call 51; refine (fault_ok _ _ _ _ hw).mono ?_; rintro e w' ⟨rfl, rfl⟩)
    | (at_builtin; go_must (refine wp_append_str rfl (.tmp 12) (.tmp 13) rfl (Row w v) _ v _ _ rfl ho.row s rfl hl (Row.new _ _) ?_); intro v2 w2 ho2 ht; obtain ⟨ad2, k2, cc2, rfl⟩ := ho2.form; have hw2 : WBlk w2 g v 0 := Blk.turn hw ht (Row.not ho hw); have d1 := hw2.c1; have f1 : w2.frozen? ⟨g, 1, none⟩ = false := Blk.frozen hw2 1))
  go_ret
  have ho2' : Owns w2 (Row w v) (.slice ad2 k2 cc2) (out.length + s.size) (bCells (out ++ s.data.toList)) := by
    rw [bCells_append]
    exact ho2
  have e : s.data.toList.length = s.size := by rw [Array.length_toList]; rfl
  exact ⟨rfl, WrIs.stored hw ho hn hF ho2' ht (by rw [List.length_append, e]), (ht.mono (Row.sub ho hn)).setCell hF _⟩
theorem done_stuck (p : Option Addr) (e0 : Int) (w : World) (h : WFault w p e0) (h0 : e0 ≠ 0) :
    Calls Tryd.prog 42 #[.pointer p] w fun e w' => e = .returned (.tuple #[.string ⟨#[]⟩, .int .i64 e0]) ∧ w = w' := by
  have hd : (e0 != 0) = true := by simpa using h0
  clear h0
  go_enter Tryd.func42, Tryd.ntmps42
  go_wp2_with (go_at_call 51; refine (fault_any _ _ _ h).mono ?_; rintro e w' ⟨rfl, rfl⟩)
  go_ret2
  exact ⟨rfl, rfl⟩
theorem done_good (F : Nat → Prop) (g : Nat) (out : List UInt8) (w : World) (h : WrIs w F g out 0) :
    Calls Tryd.prog 42 #[.pointer (some ⟨g, 0, none⟩)] w fun e w' => e = .returned (.tuple #[.string ⟨out.toArray⟩, .int .i64 0]) ∧ w = w' := by
  obtain ⟨v, hw, ho, hF⟩ := h
  have c1 := hw.c1
  have hcv := ho.string
  go_enter Tryd.func42, Tryd.ntmps42
  go_wp2_with (go_at_call 51; refine (fault_ok _ _ _ _ hw).mono ?_; rintro e w' ⟨rfl, rfl⟩)
  go_ret2
  exact ⟨rfl, rfl⟩
theorem raw_any (F : Nat → Prop) (g : Nat) (out : List UInt8) (err : Int) (s : ByteArray) (w : World) (h : WrIs w F g out err) (hn : New F w) (hl : err = 0 → out.length + s.size ≤ 140737488355328) :
    Calls Tryd.prog 40 #[.pointer (some ⟨g, 0, none⟩), .string s] w fun e w' => e = .returned (.pointer (some ⟨g, 0, none⟩)) ∧ WrIs w' F g (wRaw (out, err) s).1 (wRaw (out, err) s).2 ∧ Turn F w w' := by
  by_cases he : err = 0
  · subst he
    have e2 : wRaw (out, 0) s = (out ++ s.data.toList, 0) := by unfold wRaw; rw [if_neg (by simp)]
    rw [e2]
    exact raw_good F g out s w h hn (hl rfl)
  · have e2 : wRaw (out, err) s = (out, err) := by unfold wRaw; rw [if_pos he]
    rw [e2]
    refine (raw_stuck _ err s w h.fault he).mono fun e w' ⟨h1, h2⟩ => ?_
    subst h2
    exact ⟨h1, h, Turn.refl _ _⟩
theorem done_any (F : Nat → Prop) (g : Nat) (out : List UInt8) (err : Int) (w : World) (h : WrIs w F g out err) :
    Calls Tryd.prog 42 #[.pointer (some ⟨g, 0, none⟩)] w fun e w' => e = .returned (.tuple #[.string (wDone (out, err)).1, .int .i64 (wDone (out, err)).2]) ∧ w = w' := by
  by_cases he : err = 0
  · subst he
    have e2 : wDone (out, 0) = (⟨out.toArray⟩, 0) := by unfold wDone; rw [if_neg (by simp)]
    rw [e2]
    exact done_good F g out w h
  · have e2 : wDone (out, err) = (⟨#[]⟩, err) := by unfold wDone; rw [if_pos he]
    rw [e2]
    exact done_stuck _ err w h.fault he
end Go.Proofs.YtlnpemnolldooaaDoor.oct
