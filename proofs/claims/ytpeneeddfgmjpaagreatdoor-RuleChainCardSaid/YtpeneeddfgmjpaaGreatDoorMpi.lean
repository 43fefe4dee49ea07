/-
  Lists of numbers of the call's own: one more.
  Maps whose keys are told by a function into values: a map in a block as a list of pairs, looked up, written, deleted from, counted, cleared, gone through.
  Maps whose keys are ids; the steps of a walk at a map.
-/
import Derived.Test.YtpeneeddfgmjpaaGreatDoorHds
import Derived.Test.YtpeneeddfgmjpaaGreatDoorIda
import Derived.Maps.Keyed
import Derived.Maps.RangeRun
import Derived.Carry
import Derived.DeepKeys4
namespace Go.Proofs.YtpeneeddfgmjpaaGreatDoor.rows
open Go.RowKit Go.Proofs.YtpeneeddfgmjpaaGreatDoor.mem
def nums (l : List Int) : List Value := l.map (.int .i64 ·)
theorem nums_len (l : List Int) : (nums l).length = l.length := List.length_map ..
theorem nums_snoc (l : List Int) (x : Int) : nums (l ++ [x]) = nums l ++ [.int .i64 x] := by unfold nums; rw [List.map_append]; rfl
theorem nums_get {l : List Int} {i : Nat} (h : i < l.length) : (nums l).getD i undef = .int .i64 (l.getD i 0) := by
 unfold nums
 rw [List.getD_eq_getElem?_getD, List.getElem?_map, List.getElem?_eq_getElem h, List.getD_eq_getElem?_getD, List.getElem?_eq_getElem h]
 rfl
theorem info_num : (Tryz.prog.info? 3).map (fun i => (i.zero, i.size, i.bytes)) = some (some (.int .i64 0), 1, 8) := by kernel_rfl
theorem elem_num : Elem 50 3 8 := Elem.of Tryz.underlying50 info_num rfl
/-- one number more -/
theorem push_num {w : World} {F : Nat → Prop} {v : Value} {xs : List Value} (hO : OwnC w F 3 v xs) (x : Int) (hL : xs.length < 100000) :
  ∃ v' w', (Builtin.append_ #[50, 50] 50 #[v, .slice (some ⟨w.heap.size, 0, none⟩) 1 1]).run Tryz.prog (w.alloc (.cells #[.int .i64 x] 3)) = .ok v' w' ∧
   OwnC w' (fun k => v.ownBlock = some k ∨ w.heap.size ≤ k) 3 v' (xs ++ [.int .i64 x]) ∧ Turn (fun k => v.ownBlock = some k ∨ w.heap.size ≤ k) w w' := by
 have h1 : Below w.heap.size w (w.alloc (.cells #[.int .i64 x] 3)) := (Below.refl _ _).alloc (Nat.le_refl _) _
 have hle := h1.size
 have hR := (OwnC.laid1 w (fun k => w.heap.size ≤ k) 3 (.int .i64 x) (fun k hk => hk)).rdc (by simp)
 have hO1 : OwnC (w.alloc (.cells #[.int .i64 x] 3)) (fun k => v.ownBlock = some k ∨ w.heap.size ≤ k) 3 v xs := (hO.below h1 |> fun h => ⟨h.1, fun k hk => .inl hk⟩)
 obtain ⟨v', w', hrun, hO', hT⟩ := run_append_c elem_num hO1 hR.1 (fun u hu => by rw [List.mem_singleton.1 hu]; rfl) (by simp; omega) (by simp; omega) (fun k hk => .inr (Nat.le_trans hle hk)) 50
 exact ⟨v', w', hrun, hO', ((Turn.ofBelow h1).mono fun k hk => .inr hk).trans (hT.mono fun k hk => hk.imp id fun h => Nat.le_trans hle h)⟩
theorem OwnC.form {w : World} {F : Nat → Prop} {e : TypeId} {v : Value} {xs : List Value} (h : OwnC w F e v xs) : ∃ ad cap, v = .slice ad xs.length cap := by
 rcases h.1.2 with ⟨rfl, hn⟩ | ⟨g, cap, cur, rfl, _⟩
 ·
  exact ⟨none, 0, by rw [hn]⟩
 ·
  exact ⟨_, _, rfl⟩
end Go.Proofs.YtpeneeddfgmjpaaGreatDoor.rows

namespace Go.Proofs.YtpeneeddfgmjpaaGreatDoor.mpk
open Go.RowKit Go.Proofs.YtpeneeddfgmjpaaGreatDoor.mem Go.MapKept
open Go.ChangeMaps (setBlock)

/-- keys of a kind, told by values -/
structure KeyEnc (P : Program) (k : TypeId) {K : Type} (enc : K → Value) (ok : K → Prop) : Prop where
 keyed : Go.Maps.Keyed P k
 of : ∀ x, ok x → ∃ l, keyOf P k (enc x) = some l
 inj : ∀ x y, ok x → ok y → enc x = enc y → x = y

section
variable {K V : Type} [DecidableEq K]
/-! A map as a list of pairs. -/
def findM : List (K × V) → K → Option V
 | [], _ => none
 | p :: m, x => if p.1 = x then some p.2 else findM m x
def delM (m : List (K × V)) (x : K) : List (K × V) := m.filter fun p => decide (p.1 ≠ x)
def putM (m : List (K × V)) (x : K) (v : V) : List (K × V) := delM m x ++ [(x, v)]
def keysM (m : List (K × V)) : List K := m.map (·.1)
theorem findM_cons (p : K × V) (m : List (K × V)) (x : K) : findM (p :: m) x = if p.1 = x then some p.2 else findM m x := rfl
theorem nodup_of_map {α β : Type} (f : α → β) : ∀ {l : List α}, (l.map f).Nodup → l.Nodup
 | [], _ => List.nodup_nil
 | a :: l, h => by
  have h' : f a ∉ l.map f ∧ (l.map f).Nodup := List.nodup_cons.1 h
  exact List.nodup_cons.2 ⟨fun hm => h'.1 (List.mem_map.2 ⟨a, hm, rfl⟩), nodup_of_map f h'.2⟩
theorem findM_none {m : List (K × V)} {x : K} : findM m x = none ↔ ∀ p ∈ m, p.1 ≠ x := by
 induction m with
 | nil => simp [findM]
 | cons p m ih =>
  unfold findM
  by_cases h : p.1 = x
  ·
   simp [h]
  ·
   simp [h, ih]
theorem findM_mem {m : List (K × V)} {x : K} {v : V} (h : findM m x = some v) : (x, v) ∈ m := by
 induction m with
 | nil => simp [findM] at h
 | cons p m ih =>
  unfold findM at h
  by_cases e : p.1 = x
  ·
   rw [if_pos e] at h
   cases h
   rw [← e]
   exact List.mem_cons_self
  ·
   rw [if_neg e] at h
   exact List.mem_cons_of_mem _ (ih h)
theorem findM_of {m : List (K × V)} (hn : (keysM m).Nodup) {x : K} {v : V} (h : (x, v) ∈ m) : findM m x = some v := by
 induction m with
 | nil => cases h
 | cons p m ih =>
  unfold findM
  have hn' : p.1 ∉ keysM m ∧ (keysM m).Nodup := List.nodup_cons.1 hn
  rcases List.mem_cons.1 h with rfl | h
  ·
   rw [if_pos rfl]
  ·
   rw [if_neg (fun e : p.1 = x => hn'.1 (List.mem_map.2 ⟨(x, v), h, e.symm⟩)), ih hn'.2 h]
theorem mem_delM {m : List (K × V)} {x : K} {p : K × V} : p ∈ delM m x ↔ p ∈ m ∧ p.1 ≠ x := by
 unfold delM
 rw [List.mem_filter, decide_eq_true_iff]
theorem delM_of_not {m : List (K × V)} {x : K} (h : ∀ p ∈ m, p.1 ≠ x) : delM m x = m := List.filter_eq_self.2 fun p hp => decide_eq_true (h p hp)
theorem keys_delM (m : List (K × V)) (x : K) : keysM (delM m x) = (keysM m).filter fun y => decide (y ≠ x) := by
 unfold keysM delM
 rw [List.filter_map]
 rfl
theorem delM_nodup {m : List (K × V)} (hn : (keysM m).Nodup) (x : K) : (keysM (delM m x)).Nodup := by
 rw [keys_delM]
 exact hn.filter _
theorem putM_nodup {m : List (K × V)} (hn : (keysM m).Nodup) (x : K) (v : V) : (keysM (putM m x v)).Nodup := by
 unfold putM keysM
 rw [List.map_append]
 refine List.nodup_append.2 ⟨delM_nodup hn x, by simp, ?_⟩
 intro a ha b hb
 obtain ⟨p, hp, rfl⟩ := List.mem_map.1 ha
 simp only [List.map_cons, List.map_nil, List.mem_singleton] at hb
 subst hb
 exact (mem_delM.1 hp).2
theorem findM_append (m m' : List (K × V)) (x : K) : findM (m ++ m') x = (findM m x).or (findM m' x) := by
 induction m with
 | nil => rfl
 | cons p m ih =>
  rw [List.cons_append, findM_cons, findM_cons]
  by_cases h : p.1 = x
  ·
   rw [if_pos h, if_pos h]; rfl
  ·
   rw [if_neg h, if_neg h, ih]
theorem findM_del_same (m : List (K × V)) (x : K) : findM (delM m x) x = none := findM_none.2 fun _ hp => (mem_delM.1 hp).2
theorem findM_del_other (m : List (K × V)) {x y : K} (h : y ≠ x) : findM (delM m x) y = findM m y := by
 induction m with
 | nil => rfl
 | cons p m ih =>
  unfold delM at ih ⊢
  by_cases e : p.1 = x
  ·
   rw [List.filter_cons_of_neg (by simp [e]), ih]
   conv => rhs; unfold findM
   rw [if_neg (fun e2 => h (e2.symm.trans e))]
  ·
   rw [List.filter_cons_of_pos (by simpa using e)]
   unfold findM
   rw [ih]
theorem findM_put_same (m : List (K × V)) (x : K) (v : V) : findM (putM m x v) x = some v := by
 unfold putM
 rw [findM_append, findM_del_same]
 simp [findM]
theorem findM_put_other (m : List (K × V)) {x y : K} (h : y ≠ x) (v : V) : findM (putM m x v) y = findM m y := by
 unfold putM
 rw [findM_append, findM_del_other m h, findM_cons, if_neg (fun e : (x, v).1 = y => h e.symm)]
 show (findM m y).or none = findM m y
 cases findM m y <;> rfl
theorem delM_len {m : List (K × V)} (hn : (keysM m).Nodup) {x : K} {v : V} (h : findM m x = some v) : (delM m x).length + 1 = m.length := by
 induction m with
 | nil => cases h
 | cons p m ih =>
  have hn' : p.1 ∉ keysM m ∧ (keysM m).Nodup := List.nodup_cons.1 hn
  unfold findM at h
  unfold delM at ih ⊢
  by_cases e : p.1 = x
  ·
   have hf : m.filter (fun q => decide (q.1 ≠ x)) = m := List.filter_eq_self.2 (fun q hq => decide_eq_true (show q.1 ≠ x from fun e2 => hn'.1 (List.mem_map.2 ⟨q, hq, e2.trans e.symm⟩)))
   rw [List.filter_cons_of_neg (by simp [e]), hf, List.length_cons]
  ·
   rw [if_neg e] at h
   rw [List.filter_cons_of_pos (by simpa using e), List.length_cons, List.length_cons, ih hn'.2 h]
theorem putM_len {m : List (K × V)} (hn : (keysM m).Nodup) (x : K) (v : V) : (putM m x v).length = if (findM m x).isSome then m.length else m.length + 1 := by
 unfold putM
 rw [List.length_append, List.length_singleton]
 cases h : findM m x with
 | none => rw [delM_of_not (findM_none.1 h)]; simp
 | some u => rw [delM_len hn h]; simp
end

/-! In memory. -/
section
variable {K : Type} {P : Program} {k : TypeId} {enc : K → Value} {ok : K → Prop}
def ev (e : MapEntry) : Value × Value := (e.key, e.val)
def em (enc : K → Value) (p : K × Value) : Value × Value := (enc p.1, p.2)
/-- block b is the map m -/
def MapB (enc : K → Value) (ok : K → Prop) (w : World) (b : Nat) (m : List (K × Value)) : Prop :=
 ∃ es clock, w.heap[b]? = some (.map es clock) ∧ Stamped es clock ∧ (es.toList.map ev).Perm (m.map (em enc)) ∧ ∀ p ∈ m, ok p.1
variable {w w' : World} {b : Nat} {m : List (K × Value)}
theorem MapB.lt (h : MapB enc ok w b m) : b < w.heap.size := by
 obtain ⟨es, clock, hb, _⟩ := h
 exact (Array.getElem?_eq_some_iff.1 hb).1
theorem MapB.same (h : MapB enc ok w b m) (he : w'.heap[b]? = w.heap[b]?) : MapB enc ok w' b m := by
 obtain ⟨es, clock, hb, hr⟩ := h
 exact ⟨es, clock, he.trans hb, hr⟩
theorem MapB.turn {F : Nat → Prop} (h : MapB enc ok w b m) (ht : Turn F w w') (hF : ¬ F b) : MapB enc ok w' b m := h.same (ht.block b hF)
theorem MapB.below {B : Nat} (h : MapB enc ok w b m) (hb : Below B w w') (hB : b < B) : MapB enc ok w' b m := h.same (hb.block b hB)
theorem MapB.perm {m' : List (K × Value)} (h : MapB enc ok w b m) (hp : m.Perm m') : MapB enc ok w b m' := by
 obtain ⟨es, clock, hb, hs, hm, ho⟩ := h
 exact ⟨es, clock, hb, hs, hm.trans (hp.map _), fun p hq => ho p (hp.mem_iff.2 hq)⟩
theorem MapB.nodup (h : MapB enc ok w b m) : (keysM m).Nodup := by
 obtain ⟨es, clock, hb, hs, hm, ho⟩ := h
 have h1 : ((es.toList.map ev).map (·.1)).Nodup := by rw [List.map_map]; exact hs.2.2
 have h2 : ((m.map (em enc)).map (·.1)).Nodup := ((hm.map _).nodup_iff).1 h1
 rw [List.map_map] at h2
 have h3 : ((keysM m).map enc).Nodup := by unfold keysM; rw [List.map_map]; exact h2
 exact nodup_of_map _ h3
theorem MapB.new (enc : K → Value) (ok : K → Prop) (w : World) : MapB enc ok (w.alloc (.map #[] 0)) w.heap.size [] :=
 ⟨#[], 0, (heap_alloc w _).1, stamped_empty 0, .nil, fun _ h => by cases h⟩
theorem ents_keys (E : KeyEnc P k enc ok) {es : Array MapEntry} (hm : (es.toList.map ev).Perm (m.map (em enc))) (ho : ∀ p ∈ m, ok p.1) : ∀ e ∈ es.toList, ∃ p ∈ m, e.key = enc p.1 ∧ e.val = p.2 := fun e he => by
 obtain ⟨p, hp, h⟩ := List.mem_map.1 (hm.mem_iff.1 (List.mem_map.2 ⟨e, he, rfl⟩))
 exact ⟨p, hp, (Prod.mk.inj h).1.symm, (Prod.mk.inj h).2.symm⟩
theorem ents_of {es : Array MapEntry} (hm : (es.toList.map ev).Perm (m.map (em enc))) : ∀ p ∈ m, ∃ e ∈ es.toList, e.key = enc p.1 ∧ e.val = p.2 := fun p hp => by
 obtain ⟨e, he, h⟩ := List.mem_map.1 (hm.mem_iff.2 (List.mem_map.2 ⟨p, hp, rfl⟩))
 exact ⟨e, he, (Prod.mk.inj h).1, (Prod.mk.inj h).2⟩
/-- the road that lookup, a store and delete go: found, or not -/
theorem MapB.find [DecidableEq K] (E : KeyEnc P k enc ok) {es : Array MapEntry} {clock : Nat} (hs : Stamped es clock) (hm : (es.toList.map ev).Perm (m.map (em enc))) (ho : ∀ p ∈ m, ok p.1) (hn : (keysM m).Nodup) {x : K} (hx : ok x) :
  (findM m x = none ∧ (∀ e ∈ es.toList, e.key ≠ enc x) ∧ ∀ w : World, (Instr.findKey k (enc x) es.toList).run P w = .ok none w) ∨
  ∃ j e, es.toList[j]? = some e ∧ e.key = enc x ∧ findM m x = some e.val ∧ ∀ w : World, (Instr.findKey k (enc x) es.toList).run P w = .ok (some (j, e.val)) w := by
 obtain ⟨l, hl⟩ := E.of x hx
 have hk : ∀ e ∈ es.toList, ∃ l, keyOf P k e.key = some l := fun e he => by
  obtain ⟨p, hp, h1, _⟩ := ents_keys E hm ho e he
  rw [h1]
  exact E.of p.1 (ho p hp)
 have hnk : es.toList.Pairwise (fun x y => x.key ≠ y.key) := ((stamped_iff es clock).1 hs).2.2
 by_cases hh : ∃ e ∈ es.toList, e.key = enc x
 ·
  right
  obtain ⟨e, he, hek⟩ := hh
  obtain ⟨p, hp, h1, h2⟩ := ents_keys E hm ho e he
  have hpx : p.1 = x := E.inj _ _ (ho p hp) hx (h1.symm.trans hek)
  obtain ⟨j, hjl, hj⟩ := List.mem_iff_getElem.1 he
  have hje : es.toList[j]? = some e := by rw [List.getElem?_eq_getElem hjl, hj]
  refine ⟨j, e, hje, hek, findM_of hn (by rw [h2, ← hpx]; exact hp), fun w => ?_⟩
  rcases E.keyed.find w hl es.toList hk with ⟨_, hno⟩ | ⟨i, e', hrun, hi, hik⟩
  ·
   exact absurd hek (hno e he)
  ·
   have hij : i = j := by
    obtain ⟨hil, hie⟩ := List.getElem?_eq_some_iff.1 hi
    rcases Nat.lt_trichotomy i j with hlt | rfl | hlt
    ·
     exact absurd (by rw [hie, hj, hik, hek]) (List.pairwise_iff_getElem.1 hnk i j hil hjl hlt)
    ·
     rfl
    ·
     exact absurd (by rw [hie, hj, hik, hek]) (List.pairwise_iff_getElem.1 hnk j i hjl hil hlt)
   subst hij
   rw [hje] at hi
   cases hi
   exact hrun
 ·
  left
  have hno : ∀ e ∈ es.toList, e.key ≠ enc x := fun e he h => hh ⟨e, he, h⟩
  refine ⟨findM_none.2 fun p hp e2 => ?_, hno, fun w => ?_⟩
  ·
   obtain ⟨e, he, h1, _⟩ := ents_of hm p hp
   exact hno e he (by rw [h1, e2])
  ·
   rcases E.keyed.find w hl es.toList hk with ⟨hrun, _⟩ | ⟨i, e', _, hi, hik⟩
   ·
    exact hrun
   ·
    exact absurd hik (hno e' (List.mem_of_getElem? hi))
theorem turn_block (w : World) {b : Nat} {o : Obj} (hb : w.heap[b]? = some o) (o' : Obj) : Turn (· = b) w (setBlock w b o') :=
 ⟨rfl, rfl, rfl, by simp [setBlock], fun j hj => (heap_set hb).2 j hj⟩
theorem ents_del [DecidableEq K] (E : KeyEnc P k enc ok) {es : Array MapEntry} {clock : Nat} (hs : Stamped es clock) (hm : (es.toList.map ev).Perm (m.map (em enc))) (ho : ∀ p ∈ m, ok p.1) {x : K} (hx : ok x) {j : Nat} {e : MapEntry} (hj : es.toList[j]? = some e) (hk : e.key = enc x) :
  ((es.toList.map ev).eraseIdx j).Perm ((delM m x).map (em enc)) := by
 classical
 have hnk : es.toList.Pairwise (fun x y => x.key ≠ y.key) := ((stamped_iff es clock).1 hs).2.2
 have h1 : (es.toList.map ev).filter (fun a => !decide (a.1 = enc x)) = (es.toList.map ev).eraseIdx j :=
  ChangeMaps.filter_eq_eraseIdx (fun a => decide (a.1 = enc x)) _ j (ev e) (by rw [List.getElem?_map, hj]; rfl) (decide_eq_true hk) (by
   rw [List.pairwise_map]
   exact hnk.imp fun {a b} hab h => hab ((of_decide_eq_true h.1).trans (of_decide_eq_true h.2).symm))
 rw [← h1]
 refine (hm.filter _).trans ?_
 rw [List.filter_map]
 refine List.Perm.of_eq (congrArg _ ?_)
 unfold delM
 refine List.filter_congr fun p hp => ?_
 show (!decide (enc p.1 = enc x)) = decide (p.1 ≠ x)
 by_cases h : p.1 = x
 ·
  simp [h]
 ·
  have : ¬ enc p.1 = enc x := fun h2 => h (E.inj _ _ (ho p hp) hx h2)
  simp [h, this]
/-- 'm[k]', 'v, ok := m[k]' -/
theorem MapB.lookup [DecidableEq K] (E : KeyEnc P k enc ok) {t e : TypeId} (ht : P.underlying t = some (.map k e)) {z : Value} (hz : ∀ w : World, (zeroValue e).run P w = .ok z w) (h : MapB enc ok w b m) {x : K} (hx : ok x) (c : Bool) :
  (Instr.lookup t (.map (some b)) (enc x) c).run P w = .ok (if c then .tuple #[(findM m x).getD z, .bool (findM m x).isSome] else (findM m x).getD z) w := by
 have hn := h.nodup
 obtain ⟨es, clock, hb, hs, hm, ho⟩ := h
 obtain ⟨l, hl⟩ := E.of x hx
 rcases MapB.find E hs hm ho hn hx with ⟨h1, h2, h3⟩ | ⟨j, e0, hj, hk, h1, h3⟩
 ·
  rw [h1]
  simp [Instr.lookup, run_underlying ht, MapKept.run_getObj_map hb, E.keyed.check w _ hl, h3, hz w, Result.andThen]
 ·
  rw [h1]
  simp [Instr.lookup, run_underlying ht, MapKept.run_getObj_map hb, E.keyed.check w _ hl, h3, Result.andThen]
/-- .. of a nil map -/
theorem lookup_nil (E : KeyEnc P k enc ok) {t e : TypeId} (ht : P.underlying t = some (.map k e)) {z : Value} (hz : ∀ w : World, (zeroValue e).run P w = .ok z w) (w : World) {x : K} (hx : ok x) (c : Bool) :
  (Instr.lookup t (.map none) (enc x) c).run P w = .ok (if c then .tuple #[z, .bool false] else z) w := by
 obtain ⟨l, hl⟩ := E.of x hx
 rcases E.keyed.find w hl [] (fun e he => by cases he) with ⟨h3, _⟩ | ⟨j, e0, _, hj, _⟩
 ·
  simp [Instr.lookup, run_underlying ht, E.keyed.check w _ hl, h3, hz w, Result.andThen]
 ·
  cases hj
/-- 'm[k] = v' -/
theorem MapB.store [DecidableEq K] (E : KeyEnc P k enc ok) {t e : TypeId} (ht : P.underlying t = some (.map k e)) (h : MapB enc ok w b m) {x : K} (hx : ok x) (v : Value) :
  ∃ w', (Instr.mapUpdate t (.map (some b)) (enc x) v).run P w = .ok () w' ∧ MapB enc ok w' b (putM m x v) ∧ Turn (· = b) w w' ∧ w'.heap.size = w.heap.size := by
 have hn := h.nodup
 obtain ⟨es, clock, hb, hs, hm, ho⟩ := h
 obtain ⟨l, hl⟩ := E.of x hx
 have hop : ∀ p ∈ putM m x v, ok p.1 := fun p hp => by
  rcases List.mem_append.1 hp with hp | hp
  ·
   exact ho p (mem_delM.1 hp).1
  ·
   simp only [List.mem_singleton] at hp; rw [hp]; exact hx
 rcases MapB.find E hs hm ho hn hx with ⟨h1, h2, h3⟩ | ⟨j, e0, hj, hk, h1, h3⟩
 ·
  refine ⟨setBlock w b (.map (es.push ⟨enc x, v, clock⟩) (clock + 1)), ?_, ⟨_, _, (heap_set hb).1, stamped_push hs h2, ?_, hop⟩, turn_block w hb _, by simp [setBlock]⟩
  ·
   simp [Instr.mapUpdate, run_underlying ht, MapKept.run_getObj_map hb, E.keyed.check w _ hl, h3, MapKept.run_setObj_map _ hb, Result.andThen, setBlock]
  ·
   unfold putM
   rw [delM_of_not (findM_none.1 h1), Array.toList_push, List.map_append, List.map_append]
   exact hm.append_right _
 ·
  have hjl : j < es.toList.length := (List.getElem?_eq_some_iff.1 hj).1
  have hja : es[j]? = some e0 := by rw [← Array.getElem?_toList]; exact hj
  refine ⟨setBlock w b (.map (es.modify j fun e => { e with key := enc x, val := v }) clock), ?_, ⟨_, _, (heap_set hb).1, stamped_modify hs j _ (fun _ _ => rfl) (fun e _ he => ?_), ?_, hop⟩, turn_block w hb _, by simp [setBlock]⟩
  ·
   simp [Instr.mapUpdate, run_underlying ht, MapKept.run_getObj_map hb, E.keyed.check w _ hl, h3, hja, hk, E.keyed.stays w hl, MapKept.run_setObj_map _ hb, Result.andThen, setBlock]
  ·
   rw [hja] at he; cases he; exact hk.symm
  ·
   have hmod : (es.modify j fun e => { e with key := enc x, val := v }).toList = es.toList.set j { e0 with key := enc x, val := v } := by
    rw [Array.toList_modify]
    exact ChangeMaps.modify_eq_set _ _ j e0 hj
   rw [hmod, List.map_set]
   unfold putM
   rw [List.map_append]
   have h4 := ChangeMaps.set_perm (es.toList.map ev) j (by simpa using hjl) (enc x, v)
   refine h4.trans (((ents_del E hs hm ho hx hj hk).cons _).trans ?_)
   exact (List.perm_append_singleton _ _).symm
/-- 'delete(m, k)' -/
theorem MapB.delete [DecidableEq K] (E : KeyEnc P k enc ok) {t e : TypeId} (ht : P.underlying t = some (.map k e)) (h : MapB enc ok w b m) {x : K} (hx : ok x) (ty : TypeId) :
  ∃ w', (Builtin.delete_ #[t, k] ty #[.map (some b), enc x]).run P w = .ok (.tuple #[]) w' ∧ MapB enc ok w' b (delM m x) ∧ Turn (· = b) w w' ∧ w'.heap.size = w.heap.size := by
 have hn := h.nodup
 obtain ⟨es, clock, hb, hs, hm, ho⟩ := h
 obtain ⟨l, hl⟩ := E.of x hx
 have hop : ∀ p ∈ delM m x, ok p.1 := fun p hp => ho p (mem_delM.1 hp).1
 rcases MapB.find E hs hm ho hn hx with ⟨h1, h2, h3⟩ | ⟨j, e0, hj, hk, h1, h3⟩
 ·
  refine ⟨setBlock w b (.map es clock), ?_, ⟨_, _, (heap_set hb).1, hs, by rw [delM_of_not (findM_none.1 h1)]; exact hm, hop⟩, turn_block w hb _, by simp [setBlock]⟩
  simp [Builtin.delete_, run_underlying ht, MapKept.run_getObj_map hb, E.keyed.check w _ hl, h3, MapKept.run_setObj_map _ hb, Result.andThen, setBlock]
 ·
  have hjl : j < es.toList.length := (List.getElem?_eq_some_iff.1 hj).1
  have hsub : (es.eraseIdxIfInBounds j).toList = es.toList.eraseIdx j := by
   unfold Array.eraseIdxIfInBounds
   rw [dif_pos (by simpa using hjl)]
   simp
  refine ⟨setBlock w b (.map (es.eraseIdxIfInBounds j) clock), ?_, ⟨_, _, (heap_set hb).1, stamped_erase hs j, ?_, hop⟩, turn_block w hb _, by simp [setBlock]⟩
  ·
   simp [Builtin.delete_, run_underlying ht, MapKept.run_getObj_map hb, E.keyed.check w _ hl, h3, MapKept.run_setObj_map _ hb, Result.andThen, setBlock]
  ·
   rw [hsub, ChangeMaps.map_eraseIdx]
   exact ents_del E hs hm ho hx hj hk
theorem MapB.size (h : MapB enc ok w b m) : ∃ es clock, w.heap[b]? = some (.map es clock) ∧ es.size = m.length := by
 obtain ⟨es, clock, hb, hs, hm, ho⟩ := h
 refine ⟨es, clock, hb, ?_⟩
 have := hm.length_eq
 rw [List.length_map, List.length_map, Array.length_toList] at this
 exact this
/-- 'len(m)' -/
theorem MapB.len {t e : TypeId} (ht : P.underlying t = some (.map k e)) (h : MapB enc ok w b m) (ty : TypeId) : (Builtin.len_ #[t] ty #[.map (some b)]).run P w = .ok (.int .i64 (m.length : Int)) w := by
 obtain ⟨es, clock, hb, hl⟩ := h.size
 rw [← hl]
 simp [Builtin.len_, run_underlying ht, MapKept.run_getObj_map hb, goInt]
/-- 'clear(m)' -/
theorem MapB.clear {t e : TypeId} (ht : P.underlying t = some (.map k e)) (h : MapB enc ok w b m) (ty : TypeId) :
  ∃ w', (Builtin.clear_ #[t] ty #[.map (some b)]).run P w = .ok (.tuple #[]) w' ∧ MapB enc ok w' b [] ∧ Turn (· = b) w w' ∧ w'.heap.size = w.heap.size := by
 obtain ⟨es, clock, hb, hs, hm, ho⟩ := h
 refine ⟨setBlock w b (.map #[] clock), ?_, ⟨_, _, (heap_set hb).1, stamped_empty clock, .nil, fun _ h => by cases h⟩, turn_block w hb _, by simp [setBlock]⟩
 simp [Builtin.clear_, run_underlying ht, MapKept.run_getObj_map hb, MapKept.run_setObj_map _ hb, Result.andThen, setBlock]

/-! Gone through. -/
/-- block r is an iterator over the map m in block b, behind which left is still to come -/
def RangeB (enc : K → Value) (ok : K → Prop) (w : World) (b r : Nat) (m left : List (K × Value)) : Prop :=
 ∃ es clock since seen c0, w.heap[b]? = some (.map es clock) ∧ Stamped es clock ∧ (es.toList.map ev).Perm (m.map (em enc)) ∧ (∀ p ∈ m, ok p.1) ∧
  w.heap[r]? = some (.mapIter (some b) since seen c0) ∧ (∀ x ∈ es.toList, x.born < since) ∧ since ≤ c0 ∧ since ≤ clock ∧ ((leftOf es seen).toList.map ev).Perm (left.map (em enc)) ∧ ∀ p ∈ left, ok p.1
variable {r : Nat} {left : List (K × Value)}
theorem RangeB.map (h : RangeB enc ok w b r m left) : MapB enc ok w b m := by
 obtain ⟨es, clock, since, seen, c0, hb, hs, hm, ho, _⟩ := h
 exact ⟨es, clock, hb, hs, hm, ho⟩
theorem RangeB.lt (h : RangeB enc ok w b r m left) : r < w.heap.size := by
 obtain ⟨es, clock, since, seen, c0, hb, hs, hm, ho, hr, _⟩ := h
 exact (Array.getElem?_eq_some_iff.1 hr).1
theorem RangeB.ne (h : RangeB enc ok w b r m left) : r ≠ b := by
 obtain ⟨es, clock, since, seen, c0, hb, hs, hm, ho, hr, _⟩ := h
 intro e
 rw [e, hb] at hr
 cases hr
theorem RangeB.same (h : RangeB enc ok w b r m left) (hb' : w'.heap[b]? = w.heap[b]?) (hr' : w'.heap[r]? = w.heap[r]?) : RangeB enc ok w' b r m left := by
 obtain ⟨es, clock, since, seen, c0, hb, hs, hm, ho, hr, rest⟩ := h
 exact ⟨es, clock, since, seen, c0, hb'.trans hb, hs, hm, ho, hr'.trans hr, rest⟩
theorem RangeB.turn {F : Nat → Prop} (h : RangeB enc ok w b r m left) (ht : Turn F w w') (hF : ¬ F b) (hr : ¬ F r) : RangeB enc ok w' b r m left := h.same (ht.block b hF) (ht.block r hr)
theorem left_sub {es : Array MapEntry} {seen : Array Nat} : (leftOf es seen).toList = es.toList.filter fun e => !seen.contains e.born := by
 unfold leftOf
 rw [Array.toList_filter]
theorem RangeB.sub (h : RangeB enc ok w b r m left) (E : KeyEnc P k enc ok) : ∀ p ∈ left, p ∈ m := by
 obtain ⟨es, clock, since, seen, c0, hb, hs, hm, ho, hr, _, _, _, hl, hlo⟩ := h
 intro p hp
 obtain ⟨e, he, h1⟩ := List.mem_map.1 (hl.mem_iff.2 (List.mem_map.2 ⟨p, hp, rfl⟩))
 rw [left_sub] at he
 have he' := (List.mem_filter.1 he).1
 obtain ⟨q, hq, h2⟩ := List.mem_map.1 (hm.mem_iff.1 (List.mem_map.2 ⟨e, he', rfl⟩))
 have h3 : em enc q = em enc p := h2.trans h1
 have h4 : q.1 = p.1 := E.inj _ _ (ho q hq) (hlo p hp) (Prod.mk.inj h3).1
 have h5 : q = p := Prod.ext h4 (Prod.mk.inj h3).2
 exact h5 ▸ hq
theorem RangeB.left_nodup (h : RangeB enc ok w b r m left) : (keysM left).Nodup := by
 obtain ⟨es, clock, since, seen, c0, hb, hs, hm, ho, hr, _, _, _, hl, hlo⟩ := h
 have h0 : ((leftOf es seen).toList.map (·.key)).Nodup := by rw [left_sub]; exact (List.filter_sublist.map _).nodup hs.2.2
 have h1 : (((leftOf es seen).toList.map ev).map (·.1)).Nodup := by rw [List.map_map]; exact h0
 have h2 : ((left.map (em enc)).map (·.1)).Nodup := ((hl.map _).nodup_iff).1 h1
 rw [List.map_map] at h2
 have h3 : ((keysM left).map enc).Nodup := by unfold keysM; rw [List.map_map]; exact h2
 exact nodup_of_map _ h3
/-- 'range m' -/
theorem MapB.range {t e : TypeId} (ht : P.underlying t = some (.map k e)) (h : MapB enc ok w b m) :
  ∃ w', (Instr.range t (.map (some b))).run P w = .ok (.pointer (some ⟨w.heap.size, 0, none⟩)) w' ∧ RangeB enc ok w' b w.heap.size m m ∧ Below w.heap.size w w' ∧ w'.heap.size = w.heap.size + 1 := by
 have hlt := h.lt
 obtain ⟨es, clock, hb, hs, hm, ho⟩ := h
 refine ⟨_, run_range_map w t k e b es clock ht hb, ⟨es, clock, clock, #[], clock, ((heap_alloc w _).2 b hlt).trans hb, hs, hm, ho, (heap_alloc w _).1, hs.1, Nat.le_refl _, Nat.le_refl _, ?_, ho⟩, (Below.refl _ _).alloc (Nat.le_refl _) _, by simp⟩
 have : (leftOf es #[]).toList = es.toList := by rw [left_sub]; exact List.filter_eq_self.2 fun _ _ => by simp
 rw [this]
 exact hm
theorem perm_filter_one {l : List MapEntry} (hn : (l.map (·.born)).Nodup) {e : MapEntry} (he : e ∈ l) : l.Perm (e :: l.filter fun x => decide (x.born ≠ e.born)) := by
 induction l with
 | nil => cases he
 | cons a l ih =>
  have hn' : a.born ∉ l.map (·.born) ∧ (l.map (·.born)).Nodup := List.nodup_cons.1 hn
  rcases List.mem_cons.1 he with rfl | h
  ·
   have hf : l.filter (fun x => decide (x.born ≠ e.born)) = l := List.filter_eq_self.2 (fun x hx => decide_eq_true (show x.born ≠ e.born from fun e2 => hn'.1 (List.mem_map.2 ⟨x, hx, e2⟩)))
   rw [List.filter_cons_of_neg (by simp), hf]
  ·
   have hae : a.born ≠ e.born := fun e2 => hn'.1 (List.mem_map.2 ⟨e, h, e2.symm⟩)
   rw [List.filter_cons_of_pos (by simpa using hae)]
   exact ((ih hn'.2 h).cons a).trans (List.Perm.swap _ _ _)
/-- the step: nothing is left, or one of those that are left comes out, whichever it is -/
theorem RangeB.next [DecidableEq K] (E : KeyEnc P k enc ok) (h : RangeB enc ok w b r m left) (ty : TypeId) :
  (left = [] ∧ (Instr.next (.pointer (some ⟨r, 0, none⟩)) false ty).run P w = .ok (.tuple #[.bool false]) w) ∨
  ∃ p ∈ left, ∃ w', (Instr.next (.pointer (some ⟨r, 0, none⟩)) false ty).run P w = .ok (.tuple #[.bool true, enc p.1, p.2]) w' ∧ RangeB enc ok w' b r m (delM left p.1) ∧ Turn (· = r) w w' ∧ w'.heap.size = w.heap.size ∧
   (Instr.entry (.pointer (some ⟨r, 0, none⟩))).run P w' = .ok (.tuple #[enc p.1, p.2]) w' := by
 have hne := h.ne
 have hln := h.left_nodup
 obtain ⟨es, clock, since, seen, c0, hb, hs, hm, ho, hr, hold, hsc, hsk, hl, hlo⟩ := h
 rcases run_next_at (P := P) w ty r b since c0 seen es clock hr hb hold hsc with ⟨h0, hrun⟩ | ⟨e, he, w1, hal, hrun⟩
 ·
  refine .inl ⟨?_, hrun⟩
  have := hl.length_eq
  rw [List.length_map, List.length_map, Array.length_toList, h0] at this
  exact List.eq_nil_of_length_eq_zero this.symm
 ·
  right
  obtain ⟨hem, hes⟩ := mem_left he
  obtain ⟨p, hp, hpe⟩ := List.mem_map.1 (hl.mem_iff.1 (List.mem_map.2 ⟨e, he, rfl⟩))
  have hk1 : e.key = enc p.1 := (Prod.mk.inj hpe).1.symm
  have hv1 : e.val = p.2 := (Prod.mk.inj hpe).2.symm
  have hr1 : w1.heap[r]? = some (.mapIter (some b) since seen c0) := by rcases hal with rfl | rfl <;> exact hr
  have hb1 : w1.heap[b]? = some (.map es clock) := by rcases hal with rfl | rfl <;> exact hb
  have hset := heap_set (o' := .mapIter (some b) since (seen.push e.born) clock) hr1
  have hb' : (setBlock w1 r (.mapIter (some b) since (seen.push e.born) clock)).heap[b]? = some (.map es clock) := (hset.2 b (fun e1 => hne e1.symm)).trans hb1
  have hst := (stamped_iff es clock).1 hs
  have hnext := run_entry_at (P := P) _ r b since seen es clock e hset.1 hb' hem hst.2.1
  rw [hk1, hv1] at hrun hnext
  have ht1 : Turn (· = r) w1 (setBlock w1 r (.mapIter (some b) since (seen.push e.born) clock)) := turn_block w1 hr1 _
  refine ⟨p, hp, _, hrun, ⟨es, clock, since, seen.push e.born, clock, hb', hs, hm, ho, hset.1, hold, hsk, hsk, ?_, fun q hq => hlo q (mem_delM.1 hq).1⟩, ?_, ?_, hnext⟩
  ·
   have hlf : (leftOf es (seen.push e.born)).toList = (leftOf es seen).toList.filter fun x => decide (x.born ≠ e.born) := by
    rw [left_sub, left_sub, List.filter_filter]
    refine List.filter_congr fun x _ => ?_
    rw [contains_push]
    by_cases hx : x.born = e.born <;> simp [hx]
   have hbn : ((leftOf es seen).toList.map (·.born)).Nodup := by rw [left_sub]; exact (List.filter_sublist.map _).nodup hst.2.1
   have h5 : ((leftOf es seen).toList.map ev).Perm (ev e :: ((leftOf es seen).toList.filter fun x => decide (x.born ≠ e.born)).map ev) := (perm_filter_one hbn he).map ev
   have h6 : (left.map (em enc)).Perm (em enc p :: (delM left p.1).map (em enc)) := by
    have h7 : left.Perm (p :: delM left p.1) := by
     clear hl hlo h5 hlf hbn
     induction left with
     | nil => cases hp
     | cons a l ih =>
      have hn' : a.1 ∉ keysM l ∧ (keysM l).Nodup := List.nodup_cons.1 hln
      unfold delM at ih ⊢
      rcases List.mem_cons.1 hp with rfl | h
      ·
       have hf : l.filter (fun x => decide (x.1 ≠ p.1)) = l := List.filter_eq_self.2 (fun x hx => decide_eq_true (show x.1 ≠ p.1 from fun e2 => hn'.1 (List.mem_map.2 ⟨x, hx, e2⟩)))
       rw [List.filter_cons_of_neg (by simp), hf]
      ·
       have hae : a.1 ≠ p.1 := fun e2 => hn'.1 (List.mem_map.2 ⟨p, h, e2.symm⟩)
       rw [List.filter_cons_of_pos (by simpa using hae)]
       exact ((ih hn'.2 h).cons a).trans (List.Perm.swap _ _ _)
    exact h7.map _
   rw [hlf]
   have h8 := (h5.symm.trans hl).trans h6
   rw [← hpe] at h8
   exact h8.cons_inv
  ·
   rcases hal with rfl | rfl
   ·
    exact ht1
   ·
    exact (show Turn (· = r) w w.drew from (Turn.refl _ w).drew).trans ht1
  ·
   rcases hal with rfl | rfl <;> simp [setBlock]
/-- 'range' of a nil map -/
theorem range_nil {t e : TypeId} (ht : P.underlying t = some (.map k e)) (w : World) : (Instr.range t (.map none)).run P w = .ok (.pointer (some ⟨w.heap.size, 0, none⟩)) (w.alloc (.mapIter none 0 #[] 0)) := by
 simp [Instr.range, run_underlying ht]
theorem next_nil (w : World) (r : Nat) (ty : TypeId) (hr : w.heap[r]? = some (.mapIter none 0 #[] 0)) : (Instr.next (.pointer (some ⟨r, 0, none⟩)) false ty).run P w = .ok (.tuple #[.bool false]) w := by
 simp [Instr.next, getObj, Sem.run, hr, Result.andThen]
end
end Go.Proofs.YtpeneeddfgmjpaaGreatDoor.mpk

namespace Go.Proofs.YtpeneeddfgmjpaaGreatDoor.mpk
open Go.RowKit Go.Proofs.YtpeneeddfgmjpaaGreatDoor.mem Go.Proofs.YtpeneeddfgmjpaaGreatDoor.sha Go.Proofs.YtpeneeddfgmjpaaGreatDoor.ids
theorem id_law : WideMaps.KeyLaw Tryz.prog 24 := deep_law_laid (by kernel_rfl : laidOutB Tryz.prog = true) (m := 2) (by decide) (by decide +kernel) (by kernel_rfl) (by kernel_rfl)
theorem keyOf_id (x : List UInt8) (h : x.length = 32) : ∃ l, keyOf Tryz.prog 24 (idv x) = some l := by
 have hu : Tryz.prog.underlying 24 = some (.array 32 5) := Tryz.underlying24
 have hb : Tryz.prog.underlying 5 = some (.int .u8) := Tryz.underlying5
 have hc : Tryz.prog.cellsOf 24 = 32 := by kernel_rfl
 have hc1 : Tryz.prog.cellsOf 5 = 1 := by kernel_rfl
 have hk : Tryz.prog.keyType 24 = true := by kernel_rfl
 obtain ⟨n, hn⟩ : ∃ n, Tryz.prog.types.size = n + 1 := ⟨_, rfl⟩
 unfold keyOf
 rw [hu]
 have hf : (idv x).formed Tryz.prog 24 = true := by
  unfold idv Value.formed
  rw [hu, hc]
  simp [bv_length, h]
 have hlits : ∃ ls, Tryz.prog.keyLits (Tryz.prog.types.size + 1) 24 (idv x).cells.toList = some ls := by
  unfold Program.keyLits
  rw [hu]
  have hl : ((idv x).cells.toList).length = 32 := by show (bv x).toArray.toList.length = 32; simp [bv_length, h]
  have hel : ∀ i ∈ List.range 32, ∃ y, Tryz.prog.keyLits Tryz.prog.types.size 5 (((idv x).cells.toList.drop (i * Tryz.prog.cellsOf 5)).take (Tryz.prog.cellsOf 5)) = some y := by
   intro i hi
   have hi : i < x.length := by rw [h]; exact List.mem_range.1 hi
   rw [hc1, Nat.mul_one, hn]
   have e : ((idv x).cells.toList.drop i).take 1 = [Value.int .u8 (B (x.getD i 0))] := by
    show ((bv x).toArray.toList.drop i).take 1 = _
    rw [List.toList_toArray]
    have hg := bv_get x i hi
    obtain ⟨hlt, he⟩ := List.getElem?_eq_some_iff.1 hg
    rw [List.drop_eq_getElem_cons hlt, he]
    rfl
   rw [e]
   refine ⟨[.int .u8 (B (x.getD i 0))], ?_⟩
   unfold Program.keyLits
   rw [hb]
   obtain ⟨c, hc⟩ : ∃ c, c = x.getD i 0 := ⟨_, rfl⟩
   rw [← hc]
   have hw : (Lit.int .u8 (B c)).wf = true := by
    have := c.toNat_lt
    unfold B
    simp only [Lit.wf, IntKind.min, IntKind.max, IntKind.signed, IntKind.bits]
    simp
    omega
   exact if_pos ⟨rfl, hw⟩
  have hmm := ChangeMaps.mapM_total (d := ([] : List Lit)) hel
  simp only [hl, hc, if_true, hmm, Option.map_some]
  exact ⟨_, rfl⟩
 obtain ⟨ls, hls⟩ := hlits
 rw [hk, hf]
 simp only [Bool.and_self, if_true, hls, Option.map_some]
 exact ⟨_, rfl⟩
theorem bv_inj : ∀ x y : List UInt8, bv x = bv y → x = y
 | [], [], _ => rfl
 | [], _ :: _, h => by cases h
 | _ :: _, [], h => by cases h
 | a :: x, b :: y, h => by
  obtain ⟨h1, h2⟩ := List.cons.inj h
  have e2 : B a = B b := (Value.int.inj h1).2
  unfold B at e2
  have e3 : a = b := UInt8.toNat_inj.1 (by omega)
  rw [e3, bv_inj x y h2]
theorem idv_inj {x y : List UInt8} (h : idv x = idv y) : x = y := by
 have h1 : bv x = bv y := by
  have := congrArg (fun v => match v with | Value.agg a => a.toList | _ => []) h
  simpa [idv] using this
 exact bv_inj x y h1
/-- ids as keys -/
theorem id_key : KeyEnc Tryz.prog 24 idv (fun x : List UInt8 => x.length = 32) := ⟨Go.Maps.Keyed.of_law id_law, keyOf_id, fun _ _ _ _ h => idv_inj h⟩

/-! Steps. -/
section
variable {P : Program} {ops : Array Oper} {rest : List Oper} {o : Oper} {a : Act} {w w' : World} {Q : Exit → Act → World → Prop}
theorem step_lookup {t : TypeId} {x i : Operand} {ok : Bool} {m y v : Value} (hg : o.guard = none) (ho : o.op = .lookup t x i ok) (hx : a.eval x = m) (hi : a.eval i = y) (hr : (Instr.lookup t m y ok).run P w = .ok v w) (h : wpList P ops Q rest (a.put o.dst v) w) : wpList P ops Q (o :: rest) a w := by
 refine wpList_plain hg fun K hK => ?_
 unfold Oper.wp execOp
 simp only [ho, hx, hi, Sem.run_bind, hr, Result.andThen_ok, Sem.run_pure]
 exact hK _ _ h
theorem step_mapstore {t : TypeId} {x i y : Operand} {m k v : Value} (hg : o.guard = none) (ho : o.op = .mapUpdate t x i y) (hx : a.eval x = m) (hi : a.eval i = k) (hy : a.eval y = v) (hr : (Instr.mapUpdate t m k v).run P w = .ok () w') (h : wpList P ops Q rest (a.put o.dst undef) w') : wpList P ops Q (o :: rest) a w := by
 refine wpList_plain hg fun K hK => ?_
 unfold Oper.wp execOp
 simp only [ho, hx, hi, hy, Sem.run_bind, hr, Result.andThen_ok, Sem.run_pure]
 exact hK _ _ h
theorem step_range {t : TypeId} {x : Operand} {m v : Value} (hg : o.guard = none) (ho : o.op = .range t x) (hx : a.eval x = m) (hr : (Instr.range t m).run P w = .ok v w') (h : wpList P ops Q rest (a.put o.dst v) w') : wpList P ops Q (o :: rest) a w := by
 refine wpList_plain hg fun K hK => ?_
 unfold Oper.wp execOp
 simp only [ho, hx, Sem.run_bind, hr, Result.andThen_ok, Sem.run_pure]
 exact hK _ _ h
theorem step_next {x : Operand} {s : Bool} {m v : Value} (hg : o.guard = none) (ho : o.op = .next x s) (hx : a.eval x = m) (hr : (Instr.next m s o.type).run P w = .ok v w') (h : wpList P ops Q rest (a.put o.dst v) w') : wpList P ops Q (o :: rest) a w := by
 refine wpList_plain hg fun K hK => ?_
 unfold Oper.wp execOp
 simp only [ho, hx, Sem.run_bind, hr, Result.andThen_ok, Sem.run_pure]
 exact hK _ _ h
theorem step_entry {x : Operand} {m v : Value} (hg : o.guard = none) (ho : o.op = .entry x) (hx : a.eval x = m) (hr : (Instr.entry m).run P w = .ok v w) (h : wpList P ops Q rest (a.put o.dst v) w) : wpList P ops Q (o :: rest) a w := by
 refine wpList_plain hg fun K hK => ?_
 unfold Oper.wp execOp
 simp only [ho, hx, Sem.run_bind, hr, Result.andThen_ok, Sem.run_pure]
 exact hK _ _ h
theorem step_delete {s x : Operand} {t k : TypeId} {vs vx v : Value} (hg : o.guard = none) (ho : o.op = Op.call { callee := Callee.builtin Builtin.delete, args := #[s, x], argTypes := #[t, k] }) (hs : a.eval s = vs) (hx : a.eval x = vx) (hr : (Builtin.delete_ #[t, k] o.type #[vs, vx]).run P w = .ok v w') (h : wpList P ops Q rest (a.put o.dst v) w') : wpList P ops Q (o :: rest) a w := by
 refine wpList_plain hg fun K hK => ?_
 unfold Oper.wp
 simp [execOp, ho, resolve, invoke, builtin, hs, hx, hr, Result.andThen]
 exact hK _ _ h
theorem step_mlen {s : Operand} {t : TypeId} {vs v : Value} (hg : o.guard = none) (ho : o.op = Op.call { callee := Callee.builtin Builtin.len, args := #[s], argTypes := #[t] }) (hs : a.eval s = vs) (hr : (Builtin.len_ #[t] o.type #[vs]).run P w = .ok v w) (h : wpList P ops Q rest (a.put o.dst v) w) : wpList P ops Q (o :: rest) a w := by
 refine wpList_plain hg fun K hK => ?_
 unfold Oper.wp
 simp [execOp, ho, resolve, invoke, builtin, hs, hr, Result.andThen]
 exact hK _ _ h
theorem step_mclear {s : Operand} {t : TypeId} {vs v : Value} (hg : o.guard = none) (ho : o.op = Op.call { callee := Callee.builtin Builtin.clear, args := #[s], argTypes := #[t] }) (hs : a.eval s = vs) (hr : (Builtin.clear_ #[t] o.type #[vs]).run P w = .ok v w') (h : wpList P ops Q rest (a.put o.dst v) w') : wpList P ops Q (o :: rest) a w := by
 refine wpList_plain hg fun K hK => ?_
 unfold Oper.wp
 simp [execOp, ho, resolve, invoke, builtin, hs, hr, Result.andThen]
 exact hK _ _ h
end
end Go.Proofs.YtpeneeddfgmjpaaGreatDoor.mpk
