/-
  What entry's functions answer; awake.
-/
import Derived.Test.YtbhkegdohiekfaaDoorEna
namespace Go.Proofs.YtbhkegdohiekfaaDoor.ent
open Go.RowKit Go.Proofs.YtbhkegdohiekfaaDoor.mem Go.Proofs.YtbhkegdohiekfaaDoor.sha Go.Proofs.YtbhkegdohiekfaaDoor.ids Go.Proofs.YtbhkegdohiekfaaDoor.rows
open Go.Proofs.YtbhkegdohiekfaaDoor.opn (b1 b2 b4 num txt idl byte rd rdN rdT rdI rdS rdL St Reads Stays endE zid mkId)
open Go.Proofs.YtbhkegdohiekfaaDoor.kit (Strs)

structure EnIs (T : World → Prop) : Prop where
  next : ∀ {w w' : World}, T w → Below w.heap.size w w' → T w'
  check : ∀ (e : En) (w : World), T w → e.commit.length = 32 → e.topic.length ≤ 140737488351232 → e.body.length ≤ 140737488351232 → Calls Tryd.prog 10 #[env e] w fun x w' => x = .returned (.int .i64 (checkE e)) ∧ Below w.heap.size w w'
  put : ∀ (e : En) (w : World), T w → e.commit.length = 32 → e.topic.length ≤ 140737488351232 → e.body.length ≤ 140737488351232 → Calls Tryd.prog 8 #[env e] w fun x w' => x = .returned (.tuple #[.string (oct.tx (putE e).1), .int .i64 (putE e).2]) ∧ Below w.heap.size w w'
  of : ∀ (s : ByteArray) (w : World), T w → s.size ≤ 281474976710656 → Calls Tryd.prog 12 #[.string s] w fun x w' => x = .returned (.tuple #[env (ofE s.data.toList).1, .int .i64 (ofE s.data.toList).2]) ∧ Below w.heap.size w w'
  all : ∀ (ad : Option Addr) (n cap : Nat) (S : Nat → ByteArray) (w : World), T w → Strs w ad n S → n ≤ 1000 → (∀ i, i < n → (S i).size ≤ 1000000) → Calls Tryd.prog 14 #[.slice ad n cap] w fun x w' => ∃ v, x = .returned (.tuple #[v, .int .i64 ((allE (txs n S)).2.1 : Int), .int .i64 (allE (txs n S)).2.2]) ∧ EnV w' v (allE (txs n S)).1 ∧ Below w.heap.size w w'

/-- an entry that was told, held in a block of its own -/
def heldW (w : World) (e : En) : World := (w.alloc (.cells (enc zen).toArray 25)).setRow w.heap.size (enc e).toArray
theorem run_hold (w : World) (e : En) (hr : e.commit.length = 32) : (Instr.storeAt 25 (.pointer (some ⟨w.heap.size, 0, none⟩)) (env e)).run Tryd.prog (w.alloc (.cells (enc zen).toArray 25)) = .ok () (heldW w e) := held_en w e hr
theorem held_blk (w : World) (e : En) : Blk (heldW w e) w.heap.size 25 (enc e).toArray := setRow_heap _ _ _ _ _ _ (Blk.new w 25 (enc zen).toArray)
theorem held_below (w : World) (e : En) : Below w.heap.size w (heldW w e) := below_row' ((Below.refl _ _).alloc (Nat.le_refl _) _) (Nat.le_refl _) _

def subE : En := ⟨5, [99, 97], [], zid⟩
theorem sub_put : putE subE = ([5, 2, 99, 97], 0) := by decide +kernel
theorem sub_of : ofE [5, 2, 99, 97] = (subE, 0) := by
  have h := of_put (e := subE) (by decide +kernel) zlen
  rw [show enE subE = [5, 2, 99, 97] by decide +kernel] at h
  exact h
theorem run_build_sub (w : World) : (Instr.build 25 #[(0, .int .i64 5), (1, .string ⟨#[99, 97]⟩)]).run Tryd.prog w = .ok (env subE) w := by kernel_rfl
set_option maxHeartbeats 4000000 in
set_option maxRecDepth 100000 in
theorem awake_any {T : World → Prop} (hI : EnIs T) (w : World) (hT : T w) : Calls Tryd.prog 7 #[] w fun x w' => x = .returned (.bool true) ∧ Below w.heap.size w w' := by
  have hp := hI.put subE w hT zlen (by decide) (by decide)
  rw [sub_put] at hp
  obtain ⟨s, hs⟩ : ∃ s, s = oct.tx [5, 2, 99, 97] := ⟨_, rfl⟩
  have hsl : (s.toList == [5, 2, 99, 97]) = true := by rw [hs, ByteArray.toList_eq, oct.tx_list]; rfl
  simp only at hp
  rw [← hs] at hp
  have ho := fun u (h : T u) => hI.of s u h (by rw [hs, oct.tx_size]; decide)
  rw [show s.data.toList = [5, 2, 99, 97] by rw [hs, oct.tx_list], sub_of] at ho
  have HP := Lib.hid hp
  have HO := Lib.hid ho
  have HI := Lib.hid hI
  have HT := Lib.hid hT
  obtain ⟨t, ht⟩ : ∃ s, s = oct.tx [99, 97] := ⟨_, rfl⟩
  have htl : (t.toList == [99, 97]) = true := by rw [ht, ByteArray.toList_eq, oct.tx_list]; rfl
  have HTT := Lib.hid ht
  clear hI hT hp ho hs ht
  go_enter Tryd.func7, Tryd.ntmps7
  go_wp2_with (first
    | ((with_reducible refine step_build (t := 25) (parts := #[(0, .const (.int .i64 5)), (1, .const (.string ⟨#[99, 97]⟩))]) (ps := #[(0, .int .i64 5), (1, .string ⟨#[99, 97]⟩)]) (v := ?bvb1) ?bgb1 ?bob1 ?bxb1 ?brb1 ?bhb1); (case bgb1 => rfl); (case bob1 => rfl); (case bxb1 => (first | rfl | simp)); (case brb1 => exact run_build_sub _))
    | (go_at_call 8; (refine HP.out.mono ?_); rintro x w1 ⟨rfl, hb1⟩; have HO2 := Lib.hid (HO.out w1 (HI.out.next HT.out hb1)))
    | (go_at_call 12; (with_reducible refine HO2.out.mono ?_); rintro x w2 ⟨rfl, hb2⟩; have HH := Lib.hid (run_hold w2 subE zlen); obtain ⟨w3, hw3⟩ : ∃ u, u = heldW w2 subE := ⟨_, rfl⟩; have hk3 := held_blk w2 subE; have hb3 := held_below w2 subE; rw [← hw3] at HH hk3 hb3; have ct := (EnBlk.of hk3 zlen).topic; rw [show oct.tx subE.topic = t from HTT.out.symm] at ct; have HB3 := Lib.hid ((hb1.trans (hb2.mono hb1.size)).trans (hb3.mono (Nat.le_trans hb1.size hb2.size))); clear hk3 hb3 hw3 hb2)
    | ((with_reducible refine step_store_run (t := 25) (x := .tmp 3) (y := .tmp 13) (p := ?sps1) (v := ?svs1) (w' := ?sws1) ?sgs1 ?sos1 ?sxs1 ?sys1 ?srs1 ?shs1); (case sgs1 => rfl); (case sos1 => rfl); (case sxs1 => rfl); (case sys1 => rfl); (case srs1 => exact HH.out)))
  go_ret
  exact ⟨rfl, HB3.out⟩
end Go.Proofs.YtbhkegdohiekfaaDoor.ent
