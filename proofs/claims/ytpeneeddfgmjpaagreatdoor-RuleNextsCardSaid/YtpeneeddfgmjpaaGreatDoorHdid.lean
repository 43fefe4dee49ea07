/-
  What stands while Next takes the heads that stand behind all others.
  A header built of its parts; the block that holds it.
  petrelref08.Ahead (Ident stands in Hdia).
-/
import Derived.Test.YtpeneeddfgmjpaaGreatDoorRuv
import Derived.Test.YtpeneeddfgmjpaaGreatDoorKitw
import Derived.Test.YtpeneeddfgmjpaaGreatDoorIdsw
import Derived.Test.YtpeneeddfgmjpaaGreatDoorHdm
import Derived.Test.YtpeneeddfgmjpaaGreatDoorRufa
namespace Go.Proofs.YtpeneeddfgmjpaaGreatDoor.rul
open Go.RowKit Go.Proofs.YtpeneeddfgmjpaaGreatDoor.mem Go.Proofs.YtpeneeddfgmjpaaGreatDoor.sha Go.Proofs.YtpeneeddfgmjpaaGreatDoor.ids Go.Proofs.YtpeneeddfgmjpaaGreatDoor.rows Go.Proofs.YtpeneeddfgmjpaaGreatDoor.hdr Go.Proofs.YtpeneeddfgmjpaaGreatDoor.hds
open Go.Proofs.YtpeneeddfgmjpaaGreatDoor.opn (zid)

theorem errR_at : ∀ (K : List Hd) (k : Nat) (h : Hd), K[k]? = some h → (∀ j, j < k → (idH (K.getD j zhd)).2 = 0) → (idH h).2 ≠ 0 → errR K = (idH h).2
 | [], k, h, hk, _, _ => by simp at hk
 | a :: K, 0, h, hk, _, he => by
  obtain rfl : a = h := by simpa using hk
  unfold errR; rw [if_pos he]
 | a :: K, k + 1, h, hk, hno, he => by
  have h0 := hno 0 (by omega)
  have h0 : (idH a).2 = 0 := h0
  unfold errR
  rw [if_neg (by rw [h0]; simp)]
  exact errR_at K k h (by simpa using hk) (fun j hj => hno (j + 1) (by omega)) he
theorem errR_none : ∀ (K : List Hd), (∀ j, j < K.length → (idH (K.getD j zhd)).2 = 0) → errR K = 0
 | [], _ => rfl
 | a :: K, hno => by
  have h0 : (idH a).2 = 0 := hno 0 (by simp)
  unfold errR
  rw [if_neg (by rw [h0]; simp)]
  exact errR_none K fun j hj => hno (j + 1) (by simp; omega)
/-- the ids alone -/
def idsP (P : HP) : List Id := P.map fun p => (idH p.1).1
theorem idsP_len (P : HP) : (idsP P).length = P.length := List.length_map ..
theorem idsP_get {P : HP} {i : Nat} (hi : i < P.length) : (idsP P).getD i [] = (idH (P.getD i zhp).1).1 := by
 unfold idsP
 rw [List.getD_eq_getElem?_getD, List.getElem?_map, List.getD_eq_getElem?_getD, List.getElem?_eq_getElem hi]
 rfl
theorem idsP_ok (P : HP) : okIds (idsP P) := fun x hx => by
 obtain ⟨p, _, rfl⟩ := List.mem_map.1 hx
 exact idH_l32 _
theorem idsP_snoc {P : HP} {k : Nat} (hk : k < P.length) : idsP (P.take (k + 1)) = idsP (P.take k) ++ [(idH (P.getD k zhp).1).1] := by
 unfold idsP
 rw [List.take_succ_eq_append_getElem hk, List.map_append, List.getD_eq_getElem?_getD, List.getElem?_eq_getElem hk]
 rfl
def cut1 {α : Type} (L : List α) (k : Nat) : List α := L.take k ++ L.drop (k + 1)
theorem pairs_hs (P : HP) : pairs (hs P) = P.map fun p => (p.1, (idH p.1).1) := by
 unfold pairs hs; rw [List.map_map]; rfl
theorem pairs_get {P : HP} {i : Nat} (hi : i < P.length) : (pairs (hs P)).getD i zpr = ((P.getD i zhp).1, (idH (P.getD i zhp).1).1) := by
 rw [pairs_hs, List.getD_eq_getElem?_getD, List.getElem?_map, List.getD_eq_getElem?_getD, List.getElem?_eq_getElem hi]
 rfl
theorem pairs_len (P : HP) : (pairs (hs P)).length = P.length := by rw [pairs_hs, List.length_map]
theorem pairs_cut (P : HP) (k : Nat) : (pairs (hs P)).eraseIdx k = pairs (hs (cut1 P k)) := by
 rw [pairs_hs, pairs_hs, List.eraseIdx_eq_take_drop_succ]
 unfold cut1
 rw [List.map_append, List.map_take, List.map_drop]
theorem idsP_cut (P : HP) (k : Nat) : idsP (cut1 P k) = (idsP P).take k ++ (idsP P).drop (k + 1) := by
 unfold idsP cut1
 rw [List.map_append, List.map_take, List.map_drop]
theorem cut1_len {α : Type} {L : List α} {k : Nat} (hk : k < L.length) : (cut1 L k).length = L.length - 1 := by
 unfold cut1
 rw [List.length_append, List.length_take, List.length_drop]; omega
theorem take_one {n : Nat} {t : List Hd} {p : List Id} {P : HP} (h0 : 0 < P.length) : takeR (n + 1) t p (pairs (hs P)) =
  takeR n (t ++ [(P.getD (best (pairs (hs P)) P.length) zhp).1]) (withL p (idH (P.getD (best (pairs (hs P)) P.length) zhp).1).1) (pairs (hs (cut1 P (best (pairs (hs P)) P.length)))) := by
 have hne : pairs (hs P) ≠ [] := fun e => by
  have := pairs_len P
  rw [e] at this
  simp at this
  omega
 have hb := best_lt (pairs (hs P)) P.length (by rw [pairs_len]; exact Nat.le_refl _) h0
 conv => lhs; unfold takeR
 rw [if_neg hne, pairs_len, pairs_get hb, pairs_cut]
theorem take_stop {n : Nat} {t : List Hd} {p : List Id} {P : HP} (h0 : P.length = 0) : takeR n t p (pairs (hs P)) = (t, p) := by
 have : P = [] := List.eq_nil_of_length_eq_zero h0
 subst this
 cases n with
 | zero => rfl
 | succ n => unfold takeR; rw [if_pos (show pairs (hs []) = [] from rfl)]
/-- a list read (if it has something) that is none of a list's own block -/
def Off (tv v : Value) (ne : Prop) : Prop := ne → ∀ b off n c, v = .slice (some ⟨b, off, none⟩) n c → tv.ownBlock ≠ some b
theorem Off.empty (v : Value) (ne : Prop) : Off (.slice none 0 0) v ne := fun _ b off n c _ h => by simp [Value.ownBlock] at h
structure NxI (w0 w1 : World) (S : Nat) (P0 : HP) (lv iv pv tv : Value) (Pl T : HP) (pz : List Id) (w : World) : Prop where
 left : HsV w lv Pl
 ids : RdV w iv (idsP Pl)
 par : RdV w pv pz
 tak : OwnH w (S ≤ ·) tv T
 subl : ∀ p ∈ Pl, p ∈ P0
 subt : ∀ p ∈ T, p ∈ P0
 offl : Off tv lv (Pl ≠ [])
 offi : Off tv iv (Pl ≠ [])
 offp : Off tv pv (pz ≠ [])
 turn : Turn (S ≤ ·) w1 w
 low : Ins w0 P0
 le : w0.heap.size ≤ S ∧ S ≤ w1.heap.size
section
variable {w0 w1 w w' : World} {S : Nat} {P0 Pl T : HP} {lv iv pv tv : Value} {pz : List Id}
theorem NxI.next (h : NxI w0 w1 S P0 lv iv pv tv Pl T pz w) (hb : Below w.heap.size w w') : NxI w0 w1 S P0 lv iv pv tv Pl T pz w' :=
 ⟨h.left.next hb, h.ids.next hb, h.par.next hb, h.tak.next hb, h.subl, h.subt, h.offl, h.offi, h.offp, h.turn.trans (Turn.fresh hb fun b hb => (show S ≤ b by have := h.turn.size; have := h.le.2; omega)), h.low, h.le⟩
theorem NxI.new (h : NxI w0 w1 S P0 lv iv pv tv Pl T pz w) : New (S ≤ ·) w := fun b hb => (show S ≤ b by have := h.turn.size; have := h.le.2; omega)
theorem NxI.lowp (h : NxI w0 w1 S P0 lv iv pv tv Pl T pz w) {p : Hd × Value} (hp : p ∈ P0) : Sep tv p := fun hne b off n c e hk => by
 have := rdv_lt (h.low p hp).1 hne e
 have h2 : S ≤ b := h.tak.1.2.2 b hk
 have := h.le.1
 omega
/-- one taken -/
theorem NxI.push (h : NxI w0 w1 S P0 lv iv pv tv Pl T pz w) {p : Hd × Value} (hp : p ∈ P0) (hr : RdV w p.2 p.1.parents) (hT : T.length < 1000) (ty : TypeId) :
  ∃ tv' w', (Builtin.append_ #[27, 27] ty #[tv, .slice (some ⟨w.heap.size, 0, none⟩) 1 1]).run Tryz.prog (w.alloc (.cells (hdc p.1 p.2).toArray 26)) = .ok tv' w' ∧
   NxI w0 w1 S P0 lv iv pv tv' Pl (T ++ [p]) pz w' ∧ w.heap.size ≤ w'.heap.size ∧ Turn (S ≤ ·) w w' := by
 obtain ⟨tv', w', hrun, ho, ht, hat⟩ := push_hd h.tak p.1 p.2 (h.low p hp).2 hr (h.lowp hp) (by omega) h.new ty
 have htS : Turn (S ≤ ·) w w' := ht.mono fun j hj => hj.elim (fun e => h.tak.1.2.2 j e) (fun e => h.new j e)
 have hin : ∀ q ∈ P0, q.1.parents ≠ [] → ∀ b off n c, q.2 = .slice (some ⟨b, off, none⟩) n c → b < w.heap.size → ¬ (tv.ownBlock = some b ∨ w.heap.size ≤ b) := fun q hq hne b off n c e hlt hh => by
  rcases hh with hh | hh
  ·
   exact h.lowp hq hne b off n c e hh
  ·
   omega
 refine ⟨tv', w', hrun, ⟨⟨?_, fun q hq => ⟨?_, (h.left.2 q hq).2⟩⟩, ?_, ?_, ho, h.subl, fun q hq => (List.mem_append.1 hq).elim (h.subt q) (fun e => by rw [List.mem_singleton.1 e]; exact hp), ?_, ?_, ?_, h.turn.trans htS, h.low, h.le⟩, ht.size, htS⟩
 ·
  exact h.left.1.turn' ht fun hne b off n c e hlt hh => hh.elim (h.offl (fun e0 => hne (by rw [e0]; rfl)) b off n c e) (fun e => by omega)
 ·
  exact rdv_turn (h.left.2 q hq).1 ht (hin q (h.subl q hq))
 ·
  exact rdv_turn h.ids ht fun hne b off n c e hlt hh => hh.elim (h.offi (fun e0 => hne (by rw [e0]; rfl)) b off n c e) (fun e => by omega)
 ·
  exact rdv_turn h.par ht fun hne b off n c e hlt hh => hh.elim (h.offp hne b off n c e) (fun e => by omega)
 ·
  intro hne b off n c e hk
  rcases hat b hk with hb | hb
  ·
   exact h.offl hne b off n c e hb
  ·
   have := h.left.1.lt (by decide) (fun e0 => hne (by unfold hcs at e0; exact List.map_eq_nil_iff.1 e0)) e
   omega
 ·
  intro hne b off n c e hk
  rcases hat b hk with hb | hb
  ·
   exact h.offi hne b off n c e hb
  ·
   have := rdv_lt h.ids (fun e0 => hne (by unfold idsP at e0; exact List.map_eq_nil_iff.1 e0)) e
   omega
 ·
  intro hne b off n c e hk
  rcases hat b hk with hb | hb
  ·
   exact h.offp hne b off n c e hb
  ·
   have := rdv_lt h.par hne e
   omega
/-- a new list of those that are left -/
theorem NxI.lefts (h : NxI w0 w1 S P0 lv iv pv tv Pl T pz w) {lv' iv' : Value} {Q : HP} {F : Nat → Prop} (ht : Below w.heap.size w w') (hl : HsV w' lv' Q) (hi : RdV w' iv' (idsP Q)) (hs : ∀ p ∈ Q, p ∈ P0)
  (hl2 : ∀ b off n c, lv' = .slice (some ⟨b, off, none⟩) n c → w.heap.size ≤ b) (hi2 : ∀ b off n c, iv' = .slice (some ⟨b, off, none⟩) n c → w.heap.size ≤ b) : NxI w0 w1 S P0 lv' iv' pv tv Q T pz w' := by
 have k := h.next ht
 refine ⟨hl, hi, k.par, k.tak, hs, k.subt, fun _ b off n c e hk => ?_, fun _ b off n c e hk => ?_, k.offp, k.turn, k.low, k.le⟩
 ·
  have := hl2 b off n c e
  have := h.tak.1.lt hk
  omega
 ·
  have := hi2 b off n c e
  have := h.tak.1.lt hk
  omega
/-- more parents -/
theorem NxI.pars (h : NxI w0 w1 S P0 lv iv pv tv Pl T pz w) {pv' : Value} {qz : List Id} (ht : Below w.heap.size w w') (hp : RdV w' pv' qz)
  (hp2 : ∀ b off n c, pv' = .slice (some ⟨b, off, none⟩) n c → w.heap.size ≤ b ∨ ((∃ off' n' c', pv = .slice (some ⟨b, off', none⟩) n' c') ∧ pz ≠ [])) : NxI w0 w1 S P0 lv iv pv' tv Pl T qz w' := by
 have k := h.next ht
 refine ⟨k.left, k.ids, hp, k.tak, k.subl, k.subt, k.offl, k.offi, fun hne b off n c e hk => ?_, k.turn, k.low, k.le⟩
 rcases hp2 b off n c e with hb | ⟨⟨off', n', c', e'⟩, hne'⟩
 ·
  have := h.tak.1.lt hk
  omega
 ·
  exact h.offp hne' b off' _ _ e' hk
end
theorem exec_lo {P : Program} {ρ : Operand → Value} {o : Oper} {x y : Operand} {t : TypeId} {u z v : Value} {w : World} (ho : o.op = .slice t x (some y) none none) (hx : ρ x = u) (hy : ρ y = z) (h : (Instr.sliceAt t u (some z) none none).run P w = .ok v w) :
  (execOp ρ o).run P w = .ok (.value v) w := by
 unfold execOp
 simp [ho, hx, hy, h]
/-- 'append(append([]Header{}, l[:k]...), l[k+1:]...)' -/
theorem cut_hs {w : World} {la : Option Addr} {n lc : Nat} {P : HP} (h : HsV w (.slice la n lc) P) {w0 : World} (hlow : Ins w0 P) (h0 : w0.heap.size ≤ w.heap.size) (hn : P.length ≤ 1000) {k : Nat} (hk : k < P.length) (ty ty2 : TypeId) :
  ∃ v1 w2 v2 w3, (Builtin.append_ #[27, 27] ty #[.slice (some ⟨w.heap.size, 0, none⟩) 0 0, .slice la k lc]).run Tryz.prog (w.alloc (.cells #[] 26)) = .ok v1 w2 ∧
   (Builtin.append_ #[27, 27] ty2 #[v1, .slice (loK 38 la lc (k + 1)) (n - (k + 1)) (lc - (k + 1))]).run Tryz.prog w2 = .ok v2 w3 ∧
   HsV w3 v2 (cut1 P k) ∧ Below w.heap.size w w3 ∧ ∀ b off n c, v2 = .slice (some ⟨b, off, none⟩) n c → w.heap.size ≤ b := by
 have hnn : n = P.length := by
  obtain ⟨ad, cap, e⟩ := h.form
  injection e
 have hb : Below w.heap.size w (w.alloc (.cells #[] 26)) := (Below.refl _ _).alloc (Nat.le_refl _) _
 have hs : (w.alloc (.cells #[] 26)).heap.size = w.heap.size + 1 := by simp
 have ho := OwnH.laid0 w (F := (w.heap.size ≤ ·)) (fun b hb => hb)
 have h1 := (slice_hi_h h k (by omega) w).2
 have h2 := (slice_lo_h h (k + 1) (by omega) w).2
 obtain ⟨v1, w2, r1, ho1, ht1, -⟩ := app_hs ho (h1.next hb) (sep_low (hlow.take k) h0 (fun j hj => ho.1.2.2 j hj)) (by simp; omega) (fun b hb => (show w.heap.size ≤ b by rw [hs] at hb; omega)) ty
 have hb2 : Below w.heap.size w w2 := hb.trans (ht1.below fun j hj => by
  rcases hj with hj | hj
  ·
   exact ho.1.2.2 j hj
  ·
   rw [hs] at hj; omega)
 obtain ⟨v2, w3, r2, ho2, ht2, -⟩ := app_hs ho1 (h2.next hb2) (sep_low (hlow.drop (k + 1)) h0 (fun j hj => ho1.1.2.2 j hj)) (by simp; omega) (fun b hb => (show w.heap.size ≤ b by have := hb2.size; omega)) ty2
 have hb3 : Below w.heap.size w w3 := hb2.trans (ht2.below fun j hj => by
  rcases hj with hj | hj
  ·
   exact ho1.1.2.2 j hj
  ·
   have := hb2.size; omega)
 have hlen : (cut1 P k).length ≤ 1000000 := by rw [cut1_len hk]; omega
 rw [List.nil_append] at ho2
 exact ⟨v1, w2, v2, w3, r1, r2, ho2.hsv hlen, hb3, fun b off n c e => ho2.1.2.2 b (by rw [e]; rfl)⟩
theorem ids_laid0 (w : World) {F : Nat → Prop} (hF : New F w) : OwnI (w.alloc (.cells #[] 24)) F (.slice (some ⟨w.heap.size, 0, none⟩) 0 0) [] :=
 ⟨okIds.nil, ⟨by simp [fl], .inr ⟨w.heap.size, 0, #[], rfl, Nat.zero_le _, heap_alloc_new w _, Nat.le_refl _, Nat.zero_le _, by simp, by simp [fl]⟩⟩, fun k hk => by
  injection hk with hk
  subst hk
  exact hF _ (Nat.le_refl _)⟩
theorem cut_ids {w : World} {la : Option Addr} {n lc : Nat} {L : List Id} (h : RdV w (.slice la n lc) L) (hn : L.length ≤ 1000) {k : Nat} (hk : k < L.length) (ty ty2 : TypeId) :
  ∃ v1 w2 v2 w3, (Builtin.append_ #[22, 22] ty #[.slice (some ⟨w.heap.size, 0, none⟩) 0 0, .slice la k lc]).run Tryz.prog (w.alloc (.cells #[] 24)) = .ok v1 w2 ∧
   (Builtin.append_ #[22, 22] ty2 #[v1, .slice (loAd la lc (k + 1)) (n - (k + 1)) (lc - (k + 1))]).run Tryz.prog w2 = .ok v2 w3 ∧
   RdV w3 v2 (L.take k ++ L.drop (k + 1)) ∧ Below w.heap.size w w3 ∧ ∀ b off n c, v2 = .slice (some ⟨b, off, none⟩) n c → w.heap.size ≤ b := by
 have hnn := h.len
 have hb : Below w.heap.size w (w.alloc (.cells #[] 24)) := (Below.refl _ _).alloc (Nat.le_refl _) _
 have hs : (w.alloc (.cells #[] 24)).heap.size = w.heap.size + 1 := by simp
 have ho := ids_laid0 w (F := (w.heap.size ≤ ·)) (fun b hb => hb)
 have h1 := (slice_hi h k (by omega) w).2
 have h2 := (slice_lo h (k + 1) (by omega) w).2
 obtain ⟨v1, w2, r1, ho1, ht1⟩ := run_append_rd ho (h1.next hb) (by simp; omega) (fun b hb => (show w.heap.size ≤ b by rw [hs] at hb; omega)) ty
 have hb2 : Below w.heap.size w w2 := hb.trans (ht1.below fun j hj => by
  rcases hj with hj | hj
  ·
   exact ho.2.2 j hj
  ·
   rw [hs] at hj; omega)
 obtain ⟨v2, w3, r2, ho2, ht2⟩ := run_append_rd ho1 (h2.next hb2) (by simp; omega) (fun b hb => (show w.heap.size ≤ b by have := hb2.size; omega)) ty2
 have hb3 : Below w.heap.size w w3 := hb2.trans (ht2.below fun j hj => by
  rcases hj with hj | hj
  ·
   exact ho1.2.2 j hj
  ·
   have := hb2.size; omega)
 rw [List.nil_append] at ho2
 exact ⟨v1, w2, v2, w3, r1, r2, (ho2.rdv (by rw [List.length_append, List.length_take, List.length_drop]; omega)).1, hb3, fun b off n c e => ho2.2.2 b (by rw [e]; rfl)⟩
def slLen : Value → Nat
 | .slice _ n _ => n
 | _ => 0
theorem best_one (L : List Pr) : best L 1 = 0 := by
 show (if aheadP (L.getD 0 zpr) (L.getD 0 zpr) = true then 0 else 0) = 0
 split <;> rfl
end Go.Proofs.YtpeneeddfgmjpaaGreatDoor.rul

namespace Go.Proofs.YtpeneeddfgmjpaaGreatDoor.rul
open Go.RowKit Go.Proofs.YtpeneeddfgmjpaaGreatDoor.mem Go.Proofs.YtpeneeddfgmjpaaGreatDoor.sha Go.Proofs.YtpeneeddfgmjpaaGreatDoor.ids Go.Proofs.YtpeneeddfgmjpaaGreatDoor.rows Go.Proofs.YtpeneeddfgmjpaaGreatDoor.hdr Go.Proofs.YtpeneeddfgmjpaaGreatDoor.hds

theorem build_lit (w : World) (ad : Option Addr) (n cap : Nat) (h : Int) (t : ByteArray) (a q z : Int) (c0 c1 c2 c3 c4 c5 c6 c7 c8 c9 c10 c11 c12 c13 c14 c15 c16 c17 c18 c19 c20 c21 c22 c23 c24 c25 c26 c27 c28 c29 c30 c31 : Value) : (Instr.build 26 #[(0, .slice ad n cap), (1, .int .i64 h), (2, .string t), (3, .int .i64 a), (4, .int .i64 q), (5, .int .i64 z), (6, .agg #[c0, c1, c2, c3, c4, c5, c6, c7, c8, c9, c10, c11, c12, c13, c14, c15, c16, c17, c18, c19, c20, c21, c22, c23, c24, c25, c26, c27, c28, c29, c30, c31])]).run Tryz.prog w =
  .ok (.agg #[.slice ad n cap, .int .i64 h, .string t, .int .i64 a, .int .i64 q, .int .i64 z, c0, c1, c2, c3, c4, c5, c6, c7, c8, c9, c10, c11, c12, c13, c14, c15, c16, c17, c18, c19, c20, c21, c22, c23, c24, c25, c26, c27, c28, c29, c30, c31]) w := by kernel_rfl
theorem run_build_next (w : World) (M : Hd) (ad : Option Addr) (n cap : Nat) (hc : M.commit.length = 32) : (Instr.build 26 #[(0, .slice ad n cap), (1, .int .i64 M.height), (2, .string (oct.tx M.topic)), (3, .int .i64 M.author), (4, .int .i64 M.seq), (5, .int .i64 M.size), (6, .agg (bv M.commit).toArray)]).run Tryz.prog w =
  .ok (hdv M (.slice ad n cap)) w := by
 unfold hdv hdc
 obtain ⟨c, hcc⟩ : ∃ c, c = M.commit := ⟨_, rfl⟩
 rw [← hcc] at hc ⊢
 clear hcc
 obtain ⟨c0, d1, rfl, h1⟩ := len_cons hc
 obtain ⟨c1, d2, rfl, h2⟩ := len_cons h1
 obtain ⟨c2, d3, rfl, h3⟩ := len_cons h2
 obtain ⟨c3, d4, rfl, h4⟩ := len_cons h3
 obtain ⟨c4, d5, rfl, h5⟩ := len_cons h4
 obtain ⟨c5, d6, rfl, h6⟩ := len_cons h5
 obtain ⟨c6, d7, rfl, h7⟩ := len_cons h6
 obtain ⟨c7, d8, rfl, h8⟩ := len_cons h7
 obtain ⟨c8, d9, rfl, h9⟩ := len_cons h8
 obtain ⟨c9, d10, rfl, h10⟩ := len_cons h9
 obtain ⟨c10, d11, rfl, h11⟩ := len_cons h10
 obtain ⟨c11, d12, rfl, h12⟩ := len_cons h11
 obtain ⟨c12, d13, rfl, h13⟩ := len_cons h12
 obtain ⟨c13, d14, rfl, h14⟩ := len_cons h13
 obtain ⟨c14, d15, rfl, h15⟩ := len_cons h14
 obtain ⟨c15, d16, rfl, h16⟩ := len_cons h15
 obtain ⟨c16, d17, rfl, h17⟩ := len_cons h16
 obtain ⟨c17, d18, rfl, h18⟩ := len_cons h17
 obtain ⟨c18, d19, rfl, h19⟩ := len_cons h18
 obtain ⟨c19, d20, rfl, h20⟩ := len_cons h19
 obtain ⟨c20, d21, rfl, h21⟩ := len_cons h20
 obtain ⟨c21, d22, rfl, h22⟩ := len_cons h21
 obtain ⟨c22, d23, rfl, h23⟩ := len_cons h22
 obtain ⟨c23, d24, rfl, h24⟩ := len_cons h23
 obtain ⟨c24, d25, rfl, h25⟩ := len_cons h24
 obtain ⟨c25, d26, rfl, h26⟩ := len_cons h25
 obtain ⟨c26, d27, rfl, h27⟩ := len_cons h26
 obtain ⟨c27, d28, rfl, h28⟩ := len_cons h27
 obtain ⟨c28, d29, rfl, h29⟩ := len_cons h28
 obtain ⟨c29, d30, rfl, h30⟩ := len_cons h29
 obtain ⟨c30, d31, rfl, h31⟩ := len_cons h30
 obtain ⟨c31, d32, rfl, h32⟩ := len_cons h31
 obtain rfl : d32 = [] := List.eq_nil_of_length_eq_zero h32
 exact build_lit w ad n cap _ _ _ _ _ _ _ _ _ _ _ _ _ _ _ _ _ _ _ _ _ _ _ _ _ _ _ _ _ _ _ _ _ _ _ _ _
theorem want_allocz {ops : Array Oper} {o : Oper} {a : Act} {w : World} {K : Act → World → Prop} {Q : Exit → Act → World → Prop} {E : Prop} (hg : o.guard = none) (ho : o.op = .alloc 26)
  (hK : K (a.put o.dst (.pointer (some ⟨w.heap.size, 0, none⟩))) (w.alloc (.cells (hdc zhd nv).toArray 26))) : if Region.wanted o (yielded ops a.tmps) = true then Oper.wp Tryz.prog o a w K Q else E := by
 have hw : Region.wanted o (yielded ops a.tmps) = true := by simp [Region.wanted, hg]
 rw [if_pos hw]
 have hz : ∀ w, (zeroValue 26).run Tryz.prog w = .ok (hdv zhd nv) w := fun w => by kernel_rfl
 unfold Oper.wp execOp
 simp [ho, Instr.alloc, hz, newVar]
 exact hK
end Go.Proofs.YtpeneeddfgmjpaaGreatDoor.rul

namespace Go.Proofs.YtpeneeddfgmjpaaGreatDoor.hdr
open Go.RowKit Go.Proofs.YtpeneeddfgmjpaaGreatDoor.mem Go.Proofs.YtpeneeddfgmjpaaGreatDoor.sha Go.Proofs.YtpeneeddfgmjpaaGreatDoor.ids
open Go.Proofs.YtpeneeddfgmjpaaGreatDoor.opn (b1 b2 b4 num txt idl byte rd rdN rdT rdI rdS rdL St Reads Stays endE zid mkId)

set_option maxHeartbeats 4000000 in
set_option maxRecDepth 100000 in
theorem ahead_any (x : Int) (a : List UInt8) (y : Int) (b : List UInt8) (w : World) (ha : a.length = 32) (hb : b.length = 32) :
  Calls Tryz.prog 30 #[.int .i64 x, idv a, .int .i64 y, idv b] w fun e w' => e = .returned (.bool (aheadB x a y b)) ∧ Below w.heap.size w w' := by
 obtain ⟨w1, hw1⟩ : ∃ u, u = (w.alloc (.cells (bv a).toArray 24)).alloc (.cells (bv b).toArray 24) := ⟨_, rfl⟩
 obtain ⟨S, hS⟩ : ∃ S, S = w.heap.size := ⟨_, rfl⟩
 have hX : Blk w1 S 24 (bv a).toArray := by rw [hw1, hS]; exact (Blk.new w _ _).alloc _
 have hY : Blk w1 (S + 1) 24 (bv b).toArray := by rw [hw1, hS]; exact Blk.at_ (by simp) _ _
 have hB : Below w.heap.size w w1 := by rw [hw1]; exact ((Below.refl _ _).alloc (Nat.le_refl _) _).alloc (by simp) _
 have hla := box_load hX ha 0
 have hlb := box_load hY hb 0
 have HB := Lib.hid hB
 have HS := Lib.hid hS
 have HW := Lib.hid hw1
 have HCM := Lib.hid (fun u => rcompare_any a b u ha hb)
 have HE : Hid (aheadB x a y b = (decide (x < y) || (decide (x = y) && decide (cmpL a b < 0)))) := Lib.hid rfl
 clear hX hY hB hS hw1 ha hb
 unfold idv
 obtain ⟨c, hc⟩ : ∃ c, c = cmpL a b := ⟨_, rfl⟩
 rw [← hc] at HCM HE
 clear hc
 by_cases h1 : x < y
 ·
  have HE : Hid (aheadB x a y b = true) := Lib.hid (by rw [HE.out, decide_eq_true h1]; rfl)
  go_enter Tryz.func30, Tryz.ntmps30
  go_upto_region 1 with fail
  refine wp_at HW.out.symm ?_
  rw [← HS.out]
  clear HW
  go_wp2_with fail
  go_ret
  exact ⟨by rw [HE.out]; rfl, HB.out⟩
 have xd : decide (x < y) = false := decide_eq_false h1
 by_cases h2 : x = y
 ·
  have e2 : (x == y) = true := beq_iff_eq.2 h2
  have HE : Hid (aheadB x a y b = decide (c < 0)) := Lib.hid (by rw [HE.out, decide_eq_false h1, decide_eq_true h2]; rfl)
  clear h2 h1
  go_enter Tryz.func30, Tryz.ntmps30
  go_upto_region 1 with fail
  refine wp_at HW.out.symm ?_
  rw [← HS.out]
  clear HW
  go_wp2_with (first
   | ((with_reducible refine step_load_w (t := 24) (x := .tmp 5) (p := ?lpla) (v := ?lvla) ?lgla ?lola ?lxla ?lrla ?lhla); (case lola => rfl); (case lgla => rfl); (case lxla => rfl); (case lrla => exact hla))
   | ((with_reducible refine step_load_w (t := 24) (x := .tmp 7) (p := ?lplb) (v := ?lvlb) ?lglb ?lolb ?lxlb ?lrlb ?lhlb); (case lolb => rfl); (case lglb => rfl); (case lxlb => rfl); (case lrlb => exact hlb))
   | (go_at_call 42; (refine (HCM.out _).mono ?_); rintro e w3 ⟨rfl, hb3⟩))
  go_ret
  exact ⟨by rw [HE.out]; simp [xd], HB.out.trans (hb3.mono HB.out.size)⟩
 ·
  have e2 : (x == y) = false := beq_eq_false_iff_ne.2 h2
  have HE : Hid (aheadB x a y b = false) := Lib.hid (by rw [HE.out, decide_eq_false h1, decide_eq_false h2]; rfl)
  clear h2 h1
  go_enter Tryz.func30, Tryz.ntmps30
  go_upto_region 1 with fail
  refine wp_at HW.out.symm ?_
  rw [← HS.out]
  clear HW
  go_wp2_with fail
  go_ret
  exact ⟨by rw [HE.out]; simp [xd], HB.out⟩
end Go.Proofs.YtpeneeddfgmjpaaGreatDoor.hdr
