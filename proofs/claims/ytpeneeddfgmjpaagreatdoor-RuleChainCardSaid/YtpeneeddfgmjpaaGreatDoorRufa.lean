/-
  Which headers may be accepted, by plain functions: unknown parents, heights, a verdict, a header behind heads; what is made behind heads may be accepted by all that know these.
  petrelref15.find, Unknown, Height.
-/
import Derived.Test.YtpeneeddfgmjpaaGreatDoorHdia
import Derived.Test.YtpeneeddfgmjpaaGreatDoorIdsqa
import Derived.Test.YtpeneeddfgmjpaaGreatDoorHds
import Derived.Deep.RegionHeld3
namespace Go.Proofs.YtpeneeddfgmjpaaGreatDoor.rul
open Go.Proofs.YtpeneeddfgmjpaaGreatDoor.hdr
open Go.Proofs.YtpeneeddfgmjpaaGreatDoor.ids (cmpL withL setL okIds Sorted)

abbrev Id := List UInt8
def isId (x : Id) (h : Hd) : Bool := decide ((idH h).2 = 0) && decide ((idH h).1 = x)
def knows (K : List Hd) (x : Id) : Bool := K.any (isId x)
def unknownR (h : Hd) (K : List Hd) : List Id := h.parents.filter fun p => !knows K p
def got (K : List Hd) (x : Id) : Hd := (K.find? (isId x)).getD zhd
def up (m : Int) (h : Hd) : Int := max m (min h.height 1073741824)
def heightR (L : List Hd) : Int := L.foldl up 0 + 1
def verdictR (h : Hd) (K : List Hd) : Int :=
 if checkH h ≠ 0 then checkH h else if unknownR h K ≠ [] then 11 else if heightR (h.parents.map (got K)) ≠ h.height then 12 else 0
abbrev Pr := Hd × Id
def zpr : Pr := (zhd, opn.zid)
def aheadP (a b : Pr) : Bool := aheadB a.1.height a.2 b.1.height b.2
/-- the place of one that stands behind all others, of the first i -/
def best (L : List Pr) : Nat → Nat
 | 0 => 0
 | i + 1 => if aheadP (L.getD (best L i) zpr) (L.getD i zpr) = true then i else best L i
def takeR : Nat → List Hd → List Id → List Pr → List Hd × List Id
 | 0, t, p, _ => (t, p)
 | n + 1, t, p, L => if L = [] then (t, p) else takeR n (t ++ [(L.getD (best L L.length) zpr).1]) (withL p (L.getD (best L L.length) zpr).2) (L.eraseIdx (best L L.length))
def errR : List Hd → Int
 | [] => 0
 | h :: L => if (idH h).2 ≠ 0 then (idH h).2 else errR L
def pairs (L : List Hd) : List Pr := L.map fun h => (h, (idH h).1)
def madeR (heads : List Hd) (t : List UInt8) (a q z : Int) (c : Id) : Hd := ⟨(takeR 4 [] [] (pairs heads)).2, heightR (takeR 4 [] [] (pairs heads)).1, t, a, q, z, c⟩
def nextR (heads : List Hd) (t : List UInt8) (a q z : Int) (c : Id) : Hd × Int :=
 if errR heads ≠ 0 then (zhd, errR heads) else if checkH (madeR heads t a q z c) ≠ 0 then (zhd, checkH (madeR heads t a q z c)) else (madeR heads t a q z c, 0)
/-- two unlike ones have one id -/
def Twin (K : List Hd) : Prop := ∃ a ∈ K, ∃ b ∈ K, (idH a).2 = 0 ∧ (idH b).2 = 0 ∧ (idH a).1 = (idH b).1 ∧ a ≠ b

/-! Heights. -/
theorem up_ge : ∀ (L : List Hd) (m : Int), m ≤ L.foldl up m
 | [], _ => Int.le_refl _
 | h :: L, m => Int.le_trans (by unfold up; omega) (up_ge L (up m h))
theorem up_mem : ∀ (L : List Hd) (m : Int) (h : Hd), h ∈ L → min h.height 1073741824 ≤ L.foldl up m
 | g :: L, m, h, hm => by
  rcases List.mem_cons.1 hm with rfl | hm
  ·
   exact Int.le_trans (by unfold up; omega) (up_ge L (up m h))
  ·
   exact up_mem L _ h hm
theorem up_le : ∀ (L : List Hd) (m B : Int), m ≤ B → (∀ h ∈ L, min h.height 1073741824 ≤ B) → L.foldl up m ≤ B
 | [], _, _, hm, _ => hm
 | h :: L, m, B, hm, hl => up_le L (up m h) B (by have := hl h List.mem_cons_self; unfold up; omega) fun g hg => hl g (List.mem_cons_of_mem _ hg)
theorem height_le {L M : List Hd} (h : ∀ a ∈ L, ∃ b ∈ M, b.height = a.height) : heightR L ≤ heightR M := by
 unfold heightR
 have := up_le L 0 (M.foldl up 0) (up_ge M 0) fun a ha => by
  obtain ⟨b, hb, e⟩ := h a ha
  have := up_mem M 0 b hb
  rw [e] at this
  exact this
 omega
theorem height_ext {L M : List Hd} (h1 : ∀ a ∈ L, ∃ b ∈ M, b.height = a.height) (h2 : ∀ a ∈ M, ∃ b ∈ L, b.height = a.height) : heightR L = heightR M := by
 have := height_le h1
 have := height_le h2
 omega
theorem height_pos (L : List Hd) : 1 ≤ heightR L := by
 have := up_ge L 0
 unfold heightR
 omega
theorem height_one {L : List Hd} (h : ∀ a ∈ L, 1 ≤ a.height) : heightR L = 1 ↔ L = [] := by
 constructor
 ·
  intro e
  cases L with
  | nil => rfl
  | cons a L =>
   have h1 := up_mem (a :: L) 0 a List.mem_cons_self
   have h2 := h a List.mem_cons_self
   unfold heightR at e
   omega
 ·
  rintro rfl; rfl

/-! Ids. -/
theorem idH_ok {h : Hd} (hc : checkH h = 0) : idH h = (sha.digest (enH h), 0) := by
 unfold idH
 rw [if_neg (by rw [hc]; simp)]
theorem isId_self {h : Hd} (hc : checkH h = 0) : isId (idH h).1 h = true := by
 unfold isId
 rw [idH_ok hc]; simp
theorem isId_iff {x : Id} {h : Hd} : isId x h = true ↔ (idH h).2 = 0 ∧ (idH h).1 = x := by
 unfold isId; simp
theorem knows_iff {K : List Hd} {x : Id} : knows K x = true ↔ ∃ h ∈ K, isId x h = true := by
 unfold knows; simp
theorem got_of {K : List Hd} {x : Id} (h : knows K x = true) : got K x ∈ K ∧ isId x (got K x) = true := by
 obtain ⟨a, ha, hx⟩ := knows_iff.1 h
 unfold got
 cases hq : K.find? (isId x) with
 | none => exact absurd hx (by have := List.find?_eq_none.1 hq a ha; simpa using this)
 | some b => exact ⟨List.mem_of_find?_eq_some hq, List.find?_some hq⟩
theorem unknown_nil {h : Hd} {K : List Hd} : unknownR h K = [] ↔ ∀ p ∈ h.parents, knows K p = true := by
 unfold unknownR
 rw [List.filter_eq_nil_iff]
 simp
theorem err_ok {L : List Hd} (h : ∀ a ∈ L, checkH a = 0) : errR L = 0 := by
 induction L with
 | nil => rfl
 | cons a L ih =>
  unfold errR
  rw [idH_ok (h a List.mem_cons_self), if_neg (by simp)]
  exact ih fun b hb => h b (List.mem_cons_of_mem _ hb)

/-! What is taken. -/
theorem best_lt (L : List Pr) : ∀ i, i ≤ L.length → 0 < i → best L i < i
 | 0, _, h => by omega
 | i + 1, hi, _ => by
  unfold best
  split
  ·
   omega
  ·
   rcases Nat.eq_zero_or_pos i with h | h
   ·
    subst h; exact Nat.lt_succ_self _
   ·
    have := best_lt L i (by omega) h
    omega
theorem take_spec : ∀ (n : Nat) (t : List Hd) (p : List Id) (L : List Pr), Sorted p →
  ∃ S : List Pr, (∀ s ∈ S, s ∈ L) ∧ (takeR n t p L).1 = t ++ S.map (·.1) ∧ (∀ x, x ∈ (takeR n t p L).2 ↔ x ∈ p ∨ x ∈ S.map (·.2)) ∧ Sorted (takeR n t p L).2 ∧ S.length ≤ n ∧ (takeR n t p L).2.length ≤ p.length + S.length
 | 0, t, p, L, hp => ⟨[], by simp, by simp [takeR], by simp [takeR], hp, Nat.le_refl _, by simp [takeR]⟩
 | n + 1, t, p, L, hp => by
  unfold takeR
  by_cases h0 : L = []
  ·
   rw [if_pos h0]
   exact ⟨[], by simp, by simp, by simp, hp, Nat.zero_le _, by simp⟩
  rw [if_neg h0]
  have hl : 0 < L.length := List.length_pos_iff.2 h0
  have hb := best_lt L L.length (Nat.le_refl _) hl
  obtain ⟨k, hk⟩ : ∃ k, k = best L L.length := ⟨_, rfl⟩
  rw [← hk] at hb ⊢
  obtain ⟨x, hx⟩ : ∃ x, x = L.getD k zpr := ⟨_, rfl⟩
  have hxm : x ∈ L := by
   rw [hx, List.getD_eq_getElem?_getD, List.getElem?_eq_getElem hb, Option.getD_some]
   exact List.getElem_mem hb
  rw [← hx]
  obtain ⟨S, h1, h2, h3, h4, h5, h6⟩ := take_spec n (t ++ [x.1]) (withL p x.2) (L.eraseIdx k) (ids.withL_sorted _ _ hp)
  refine ⟨x :: S, ?_, ?_, ?_, h4, by simp; omega, ?_⟩
  ·
   intro s hs
   rcases List.mem_cons.1 hs with rfl | hs
   ·
    exact hxm
   ·
    exact List.mem_of_mem_eraseIdx (h1 s hs)
  ·
   rw [h2]; simp
  ·
   intro y
   rw [h3, ids.mem_withL, List.map_cons, List.mem_cons]
   constructor
   ·
    rintro ((e | e) | e)
    ·
     exact .inr (.inl e)
    ·
     exact .inl e
    ·
     exact .inr (.inr e)
   ·
    rintro (e | e | e)
    ·
     exact .inl (.inr e)
    ·
     exact .inl (.inl e)
    ·
     exact .inr e
  ·
   have := ids.withL_len p x.2
   simp only [List.length_cons]
   omega
theorem take_some : ∀ (n : Nat) (t : List Hd) (p : List Id) (L : List Pr), (takeR n t p L).1.length ≥ t.length
 | 0, t, p, L => by simp [takeR]
 | n + 1, t, p, L => by
  unfold takeR
  split
  ·
   simp
  ·
   have := take_some n (t ++ [(L.getD (best L L.length) zpr).1]) (withL p (L.getD (best L L.length) zpr).2) (L.eraseIdx (best L L.length))
   rw [List.length_append] at this
   simp only [List.length_cons, List.length_nil] at this
   omega

/-! What is made behind heads. -/
theorem made_good {heads : List Hd} (hc : ∀ h ∈ heads, checkH h = 0) {B : Int} (hB : 0 ≤ B) (hB2 : B < 1073741824) (hh : ∀ h ∈ heads, h.height ≤ B) {t : List UInt8} {a q z : Int} {c : Id}
  (ht : topic.kindOf t ≠ 0) (hr : ¬ (a < 0 ∨ 255 < a ∨ q < 1 ∨ 1073741824 < q ∨ z < 1 ∨ 512 < z)) :
  nextR heads t a q z c = (madeR heads t a q z c, 0) ∧ checkH (madeR heads t a q z c) = 0 ∧ (madeR heads t a q z c).height ≤ B + 1 ∧
  ∃ S : List Hd, (∀ s ∈ S, s ∈ heads) ∧ (madeR heads t a q z c).height = heightR S ∧ ∀ x, x ∈ (madeR heads t a q z c).parents ↔ ∃ s ∈ S, (idH s).1 = x := by
 obtain ⟨S, h1, h2, h3, h4, h5, h6⟩ := take_spec 4 [] [] (pairs heads) List.Pairwise.nil
 have hS : ∀ s ∈ S, s.1 ∈ heads ∧ s.2 = (idH s.1).1 := fun s hs => by
  have := h1 s hs
  unfold pairs at this
  obtain ⟨h, hm, rfl⟩ := List.mem_map.1 this
  exact ⟨hm, rfl⟩
 rw [List.nil_append] at h2
 have hge : ∀ g ∈ S.map (·.1), 1 ≤ g.height := fun g hg => by
  obtain ⟨s, hs, rfl⟩ := List.mem_map.1 hg
  have hb := (hdr.check_parts (hc _ (hS s hs).1)).2.2.1
  unfold badHeight at hb
  omega
 have hle : heightR (S.map (·.1)) ≤ B + 1 := by
  unfold heightR
  have := up_le (S.map (·.1)) 0 B hB fun g hg => by
   obtain ⟨s, hs, rfl⟩ := List.mem_map.1 hg
   have := hh _ (hS s hs).1
   omega
  omega
 have hpos := height_pos (S.map (·.1))
 have hone := height_one hge
 have hnil : (takeR 4 [] [] (pairs heads)).2.length = 0 ↔ S = [] := by
  rw [List.length_eq_zero_iff]
  constructor
  ·
   intro e
   cases S with
   | nil => rfl
   | cons s S =>
    have := (h3 s.2).2 (.inr (by simp))
    rw [e] at this
    simp at this
  ·
   rintro rfl
   rw [← List.length_eq_zero_iff]
   simp only [List.length_nil] at h6
   omega
 have hmade : checkH (madeR heads t a q z c) = 0 := by
  unfold checkH
  rw [if_neg (by show ¬ 4 < (takeR 4 [] [] (pairs heads)).2.length; simp only [List.length_nil] at h6; omega),
   if_neg (by show ¬ (((takeR 4 [] [] (pairs heads)).2 == setL (takeR 4 [] [] (pairs heads)).2) = false); rw [ids.setL_of_sorted _ h4]; simp), if_neg, if_neg (show ¬ topic.kindOf (madeR heads t a q z c).topic = 0 from ht), if_neg (show ¬ badRange (madeR heads t a q z c) from hr)]
  ·
   show ¬ (heightR (takeR 4 [] [] (pairs heads)).1 < 1 ∨ 1073741824 < heightR (takeR 4 [] [] (pairs heads)).1 ∨ ¬ ((takeR 4 [] [] (pairs heads)).2.length = 0 ↔ heightR (takeR 4 [] [] (pairs heads)).1 = 1))
   rw [h2, hnil, hone, List.map_eq_nil_iff]
   rintro (e | e | e)
   ·
    omega
   ·
    omega
   ·
    exact e Iff.rfl
 refine ⟨?_, hmade, ?_, S.map (·.1), ?_, ?_, ?_⟩
 ·
  unfold nextR
  rw [err_ok hc, if_neg (by simp), if_neg (by rw [hmade]; simp)]
 ·
  show heightR (takeR 4 [] [] (pairs heads)).1 ≤ B + 1
  rw [h2]; exact hle
 ·
  intro s hs
  obtain ⟨x, hx, rfl⟩ := List.mem_map.1 hs
  exact (hS x hx).1
 ·
  show heightR (takeR 4 [] [] (pairs heads)).1 = _
  rw [h2]
 ·
  intro x
  show x ∈ (takeR 4 [] [] (pairs heads)).2 ↔ _
  rw [h3]
  constructor
  ·
   rintro (e | e)
   ·
    simp at e
   ·
    obtain ⟨s, hs, rfl⟩ := List.mem_map.1 e
    exact ⟨s.1, List.mem_map.2 ⟨s, hs, rfl⟩, (hS s hs).2.symm⟩
  ·
   rintro ⟨s, hs, rfl⟩
   obtain ⟨y, hy, rfl⟩ := List.mem_map.1 hs
   exact .inr (List.mem_map.2 ⟨y, hy, (hS y hy).2⟩)
/-- a header whose parents are some of K's, by those of K that are known: it may be accepted, or a parent is unknown -/
theorem verdict_sub {h : Hd} {S K M : List Hd} (hc : checkH h = 0) (hK : ∀ a ∈ K, checkH a = 0) (hS : ∀ s ∈ S, s ∈ K) (hh : h.height = heightR S) (hp : ∀ x, x ∈ h.parents ↔ ∃ s ∈ S, (idH s).1 = x) (hM : ∀ a ∈ M, a ∈ K) (ht : ¬ Twin K) :
  verdictR h M = if unknownR h M = [] then 0 else 11 := by
 unfold verdictR
 rw [if_neg (by rw [hc]; simp)]
 by_cases hu : unknownR h M = []
 ·
  rw [if_neg (by rw [hu]; simp), if_pos hu, if_neg]
  rw [hh, ne_eq, Decidable.not_not]
  have hk := unknown_nil.1 hu
  have hg : ∀ p ∈ h.parents, ∀ s ∈ S, (idH s).1 = p → got M p = s := fun p hpm s hs e => by
   obtain ⟨g1, g2⟩ := got_of (hk p hpm)
   have g3 := isId_iff.1 g2
   by_cases hne : got M p = s
   ·
    exact hne
   ·
    exact absurd ⟨got M p, hM _ g1, s, hS s hs, g3.1, by rw [idH_ok (hK s (hS s hs))], by rw [g3.2, e], hne⟩ ht
  refine height_ext (fun a ha => ?_) (fun s hs => ?_)
  ·
   obtain ⟨p, hpm, rfl⟩ := List.mem_map.1 ha
   obtain ⟨s, hs, e⟩ := (hp p).1 hpm
   exact ⟨s, hs, by rw [hg p hpm s hs e]⟩
  ·
   have hpm : (idH s).1 ∈ h.parents := (hp _).2 ⟨s, hs, rfl⟩
   exact ⟨got M (idH s).1, List.mem_map.2 ⟨_, hpm, rfl⟩, by rw [hg _ hpm s hs rfl]⟩
 ·
  rw [if_pos hu, if_neg hu]
theorem unknown_none {h : Hd} {S K : List Hd} (hK : ∀ a ∈ K, checkH a = 0) (hS : ∀ s ∈ S, s ∈ K) (hp : ∀ x, x ∈ h.parents ↔ ∃ s ∈ S, (idH s).1 = x) : unknownR h K = [] := by
 rw [unknown_nil]
 intro p hpm
 obtain ⟨s, hs, rfl⟩ := (hp p).1 hpm
 exact knows_iff.2 ⟨s, hS s hs, isId_self (hK s (hS s hs))⟩
theorem Twin.mono {K M : List Hd} (h : Twin K) (hs : ∀ a ∈ K, a ∈ M) : Twin M := by
 obtain ⟨a, ha, b, hb, e⟩ := h
 exact ⟨a, hs a ha, b, hs b hb, e⟩
/-! Where of several known ones of one id the last one counts. -/
def verdictL (h : Hd) (K : List Hd) : Int := verdictR h K.reverse
theorem knows_rev (K : List Hd) (x : Id) : knows K.reverse x = knows K x := by
 unfold knows; rw [List.any_reverse]
theorem unknown_rev (h : Hd) (K : List Hd) : unknownR h K.reverse = unknownR h K := by
 unfold unknownR
 simp only [knows_rev]
theorem verdictL_sub {h : Hd} {S K M : List Hd} (hc : checkH h = 0) (hK : ∀ a ∈ K, checkH a = 0) (hS : ∀ s ∈ S, s ∈ K) (hh : h.height = heightR S) (hp : ∀ x, x ∈ h.parents ↔ ∃ s ∈ S, (idH s).1 = x) (hM : ∀ a ∈ M, a ∈ K) (ht : ¬ Twin K) :
  verdictL h M = if unknownR h M = [] then 0 else 11 := by
 unfold verdictL
 rw [verdict_sub hc hK hS hh hp (M := M.reverse) (fun a ha => hM a (List.mem_reverse.1 ha)) ht, unknown_rev]
/-- it is the same one, if no two unlike ones have one id -/
theorem verdictL_eq {h : Hd} {K : List Hd} (ht : ¬ Twin K) : verdictL h K = verdictR h K := by
 unfold verdictL verdictR
 rw [unknown_rev]
 by_cases hu : unknownR h K = []
 ·
  have hk := unknown_nil.1 hu
  have e : h.parents.map (got K.reverse) = h.parents.map (got K) := by
   refine List.map_congr_left fun p hp => ?_
   obtain ⟨g1, g2⟩ := got_of (hk p hp)
   obtain ⟨g3, g4⟩ := got_of (K := K.reverse) (by rw [knows_rev]; exact hk p hp)
   have i2 := isId_iff.1 g2
   have i4 := isId_iff.1 g4
   by_cases hne : got K.reverse p = got K p
   ·
    exact hne
   ·
    exact absurd ⟨_, List.mem_reverse.1 g3, _, g1, i4.1, i2.1, i4.2.trans i2.2.symm, hne⟩ ht
  rw [e]
 ·
  rw [if_pos hu, if_pos hu]
theorem len_cons {α : Type} {l : List α} {n : Nat} (h : l.length = n + 1) : ∃ a t, l = a :: t ∧ t.length = n := by
 cases l with
 | nil => simp at h
 | cons a t => exact ⟨a, t, rfl, by simpa using h⟩
theorem nextR_com (K : List Hd) (t : List UInt8) (a q z : Int) (c : Id) (hc : c.length = 32) : (nextR K t a q z c).1.commit.length = 32 := by
 unfold nextR
 split
 ·
  exact zcom
 split
 ·
  exact zcom
 ·
  exact hc
end Go.Proofs.YtpeneeddfgmjpaaGreatDoor.rul

namespace Go.Proofs.YtpeneeddfgmjpaaGreatDoor.rul
open Go.RowKit Go.Proofs.YtpeneeddfgmjpaaGreatDoor.mem Go.Proofs.YtpeneeddfgmjpaaGreatDoor.sha Go.Proofs.YtpeneeddfgmjpaaGreatDoor.ids Go.Proofs.YtpeneeddfgmjpaaGreatDoor.hdr Go.Proofs.YtpeneeddfgmjpaaGreatDoor.hds
open Go.Proofs.YtpeneeddfgmjpaaGreatDoor.opn (zid)

/-- what is asked of each -/
def Few (P : HP) : Prop := ∀ p ∈ P, p.1.parents.length ≤ 1000 ∧ p.1.topic.length ≤ 140737488351232
theorem Few.get {P : HP} (h : Few P) {i : Nat} (hi : i < P.length) : (P.getD i zhp).1.parents.length ≤ 1000 ∧ (P.getD i zhp).1.topic.length ≤ 140737488351232 := by
 rw [List.getD_eq_getElem?_getD, List.getElem?_eq_getElem hi]
 exact h _ (List.getElem_mem hi)
/-- the headers alone -/
def hs (P : HP) : List Hd := P.map (·.1)
theorem hs_len (P : HP) : (hs P).length = P.length := List.length_map ..
theorem hs_get {P : HP} {i : Nat} (hi : i < P.length) : (hs P)[i]? = some (P.getD i zhp).1 := by
 unfold hs
 rw [List.getElem?_map, List.getD_eq_getElem?_getD, List.getElem?_eq_getElem hi]
 rfl
theorem hs_getD {P : HP} {i : Nat} (hi : i < P.length) : (hs P).getD i zhd = (P.getD i zhp).1 := by
 rw [List.getD_eq_getElem?_getD, hs_get hi]; rfl
def findI (x : Id) (K : List Hd) : Int := match K.findIdx? (isId x) with | some i => (i : Int) | none => -1
theorem findI_at {x : Id} {K : List Hd} {i : Nat} {h : Hd} (hi : K[i]? = some h) (hno : ∀ j, j < i → isId x (K.getD j zhd) = false) (hy : isId x h = true) : findI x K = (i : Int) := by
 have hlt := (List.getElem?_eq_some_iff.1 hi).1
 have e : K.findIdx? (isId x) = some i := by
  rw [List.findIdx?_eq_some_iff_getElem]
  refine ⟨hlt, ?_, fun j hj => ?_⟩
  ·
   rw [(List.getElem?_eq_some_iff.1 hi).2]; exact hy
  ·
   have := hno j hj
   rw [List.getD_eq_getElem?_getD, List.getElem?_eq_getElem (by omega), Option.getD_some] at this
   rw [this]; simp
 unfold findI
 rw [e]
theorem findI_none {x : Id} {K : List Hd} (hno : ∀ j, j < K.length → isId x (K.getD j zhd) = false) : findI x K = -1 := by
 have e : K.findIdx? (isId x) = none := by
  rw [List.findIdx?_eq_none_iff]
  intro a ha
  obtain ⟨j, hj, rfl⟩ := List.getElem_of_mem ha
  have := hno j hj
  rw [List.getD_eq_getElem?_getD, List.getElem?_eq_getElem hj, Option.getD_some] at this
  exact this
 unfold findI
 rw [e]
theorem findI_knows {x : Id} {K : List Hd} : 0 ≤ findI x K ↔ knows K x = true := by
 unfold findI knows
 cases h : K.findIdx? (isId x) with
 | none =>
  rw [List.findIdx?_eq_none_iff] at h
  constructor
  ·
   intro hh; simp only at hh; omega
  ·
   intro hh
   obtain ⟨a, ha, hx⟩ := List.any_eq_true.1 hh
   rw [h a ha] at hx; cases hx
 | some i =>
  rw [List.findIdx?_eq_some_iff_getElem] at h
  obtain ⟨hi, hx, _⟩ := h
  constructor
  ·
   intro _; exact List.any_eq_true.2 ⟨_, List.getElem_mem hi, hx⟩
  ·
   intro _; simp only; omega
theorem findI_neg {x : Id} {K : List Hd} : findI x K < 0 ↔ knows K x = false := by
 have := findI_knows (x := x) (K := K)
 rw [← Bool.not_eq_true, ← this]; omega
theorem findI_got {x : Id} {K : List Hd} (h : knows K x = true) : ∃ i : Nat, findI x K = (i : Int) ∧ K[i]? = some (got K x) := by
 unfold findI got
 cases e : K.findIdx? (isId x) with
 | none =>
  rw [List.findIdx?_eq_none_iff] at e
  obtain ⟨a, ha, hx⟩ := knows_iff.1 h
  rw [e a ha] at hx; cases hx
 | some i =>
  rw [List.findIdx?_eq_some_iff_getElem] at e
  obtain ⟨hi, hx, hn⟩ := e
  refine ⟨i, rfl, ?_⟩
  have : K.find? (isId x) = some K[i] := by
   rw [List.find?_eq_some_iff_getElem]
   exact ⟨hx, i, hi, rfl, fun j hj => by have := hn j hj; simpa using this⟩
  rw [this, List.getElem?_eq_getElem hi]; rfl
theorem isId_eq {x : Id} {h : Hd} {y : Id} {e : Int} (hi : idH h = (y, e)) : isId x h = (decide (e = 0) && decide (y = x)) := by
 unfold isId; rw [hi]
theorem eql_i (w : World) (x y : Id) (hx : x.length = 32) (hy : y.length = 32) : (binOp .eql 24 (idv x) (idv y)).run Tryz.prog w = .ok (.bool (decide (x = y))) w := by
 rw [eql_ids w x y hx hy]
 congr 2
 rw [Bool.eq_iff_iff, beq_iff_eq, decide_eq_true_iff]
theorem idH_l32 (h : Hd) : (idH h).1.length = 32 := by
 unfold idH
 split
 ·
  exact zid32
 ·
  rfl

end Go.Proofs.YtpeneeddfgmjpaaGreatDoor.rul
