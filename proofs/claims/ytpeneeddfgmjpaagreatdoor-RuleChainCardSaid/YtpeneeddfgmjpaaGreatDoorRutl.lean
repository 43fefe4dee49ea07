/-
 A header out of a list, as it lies.
-/
import Derived.Test.YtpeneeddfgmjpaaGreatDoorRufa
namespace Go.Proofs.YtpeneeddfgmjpaaGreatDoor.rul
open Go.RowKit Go.Proofs.YtpeneeddfgmjpaaGreatDoor.mem Go.Proofs.YtpeneeddfgmjpaaGreatDoor.sha Go.Proofs.YtpeneeddfgmjpaaGreatDoor.ids Go.Proofs.YtpeneeddfgmjpaaGreatDoor.hdr Go.Proofs.YtpeneeddfgmjpaaGreatDoor.hds
open Go.Proofs.YtpeneeddfgmjpaaGreatDoor.opn (zid)

theorem getD_mem {K : List Hd} {i : Nat} (hi : i < K.length) : K.getD i zhd ∈ K := by
 rw [List.getD_eq_getElem?_getD, List.getElem?_eq_getElem hi]
 exact List.getElem_mem hi
theorem Few.at_ {P : HP} (h : Few P) {i : Nat} (hi : i < P.length) {a : Hd} {va : Value} (e : P.getD i zhp = (a, va)) : a.parents.length ≤ 1000 ∧ a.topic.length ≤ 140737488351232 := by
 have := h.get hi
 rw [e] at this; exact this
theorem load_e {w : World} {b off n cap : Nat} {P : HP} (h : HsV w (.slice (some ⟨b, off, none⟩) n cap) P) {i : Nat} (hi : i < P.length) {a : Hd} {va : Value} (e : P.getD i zhp = (a, va)) :
  (Instr.loadAt 26 (.pointer (some ⟨b, off + i * 38, none⟩))).run Tryz.prog w = .ok (hdv a va) w := by
 obtain ⟨b1, o1, e1, -, hl, -⟩ := h.at_ hi
 cases e1
 have := hl 0
 rw [e] at this; exact this
theorem ins_e {w : World} {v : Value} {P : HP} (h : HsV w v P) {i : Nat} (hi : i < P.length) {a : Hd} {va : Value} (e : P.getD i zhp = (a, va)) : RdV w va a.parents ∧ a.commit.length = 32 := by
 have := h.2.get hi
 rw [e] at this; exact this
theorem two_e {P : HP} {i : Nat} (hi : i < P.length) {a : Hd} {va : Value} (e : P.getD i zhp = (a, va)) : (hs P).getD i zhd = a := by rw [hs_getD hi, e]
end Go.Proofs.YtpeneeddfgmjpaaGreatDoor.rul
