/-
  The landed op: write, kinds [5, 3].
  The landed op: write, kinds [6, 7].
-/
import Derived.Test.YtmaolmogccknbaaDoorOlp
namespace Go.Proofs.YtmaolmogccknbaaDoor.opn
open Go.RowKit Go.Proofs.YtmaolmogccknbaaDoor.mem Go.Proofs.YtmaolmogccknbaaDoor.sha Go.Proofs.YtmaolmogccknbaaDoor.ids

set_option maxHeartbeats 4000000 in
set_option maxRecDepth 100000 in
theorem write5 (B g : Nat) (out : List UInt8) (o : Opn) (v : Value) (w : World) (hk : o.k = 5) (h : oct.WrIs w (B ≤ ·) g out 0) (hn : New (B ≤ ·) w) (hl : out.length ≤ 10) (hr : o.ref.length = 32) (lk : o.key.length ≤ 16) (lv : o.val.length ≤ 16) (ls : o.refs.length ≤ 8)
    (hN : Part.N ∈ has o.k → 0 ≤ o.n + off o.k ∧ o.n + off o.k < 4294967296) (hv : ∀ u, Turn (B ≤ ·) w u → RdV u v o.refs) :
    Calls Tryd.prog 38 #[.pointer (some ⟨g, 0, none⟩), opv o v] w fun e w' => e = .returned (.tuple #[]) ∧ oct.WrIs w' (B ≤ ·) g (out ++ encs o (has o.k)) 0 ∧ Turn (B ≤ ·) w w' := by
  obtain ⟨w1, hw1⟩ : ∃ u, u = w.alloc (.cells (opc o v).toArray 26) := ⟨_, rfl⟩
  obtain ⟨S, hS⟩ : ∃ S, S = w.heap.size := ⟨_, rfl⟩
  have hB : Below w.heap.size w w1 := by rw [hw1]; exact (Below.refl _ _).alloc (Nat.le_refl _) _
  have hsz : w1.heap.size = S + 1 := by rw [hw1, hS]; simp
  have hBS : B ≤ S := by rw [hS]; exact hn _ (Nat.le_refl _)
  have HQ0 : WrP B g S o v w out w1 := ⟨by rw [hw1, hS]; exact Blk.new w _ _, (WrIs.sub h fun b hb hF => (⟨hF, by omega⟩ : WF B S b)).fresh hB, Turn.fresh hB hn, fun b hb => ⟨by rw [hsz] at hb; omega, by rw [hsz] at hb; omega⟩⟩
  have EL := Lib.hid (enc_len lk lv hr (fun x hx => (hv w (Turn.refl _ _)).ok x hx) ls)
  have c0 := (OpBlk.of HQ0.op hr).k
  rw [hk] at c0
  have HE : Hid (out ++ encs o (has o.k) = out ++ txt o.key ++ txt o.val ++ idl o.refs) := Lib.hid (by rw [hk]; show out ++ (([.K, .V, .S] : List Part).map (enc o)).flatten = _; simp [enc])
  have HLO := Lib.hid hl
  have HC0 := Lib.hid (fun (u : World) (hq : WrP B g S o v w (out) u) => wp_text hq (by have := HLO.out; omega) o.key lk)
  have HC1 := Lib.hid (fun (u : World) (hq : WrP B g S o v w (out ++ txt o.key) u) => wp_text hq (by have := (show (txt o.key).length ≤ 257 from EL.out .K); have := HLO.out; simp only [List.length_append]; omega) o.val lv)
  have HC2 := Lib.hid (fun (u : World) (hq : WrP B g S o v w (out ++ txt o.key ++ txt o.val) u) => wp_ids hq (by have := (show (txt o.key).length ≤ 257 from EL.out .K); have := (show (txt o.val).length ≤ 257 from EL.out .V); have := HLO.out; simp only [List.length_append]; omega) o.refs ls hv)
  have HR := Lib.hid hr
  have HW := Lib.hid hw1
  have HS := Lib.hid hS
  obtain ⟨tK, htK⟩ : ∃ t, t = oct.tx o.key := ⟨_, rfl⟩
  have HTK := Lib.hid htK
  obtain ⟨tV, htV⟩ : ∃ t, t = oct.tx o.val := ⟨_, rfl⟩
  have HTV := Lib.hid htV
  rw [← htK] at HC0
  rw [← htV] at HC1
  have HC0 := Lib.hid (HC0.out w1 HQ0)
  have cc := (OpBlk.of HQ0.op HR.out).key
  rw [← HTK.out] at cc
  clear hw1 hB hsz hBS hS EL lk lv ls hN hv h hn hl hr hk HQ0 htK htV
  unfold opv
  go_enter Tryd.func38, Tryd.ntmps38
  go_upto_region 1 with fail
  refine wp_at HW.out.symm ?_
  rw [← HS.out]
  clear HW
  go_wp2_with (first
    | (go_at_call 62; (with_reducible refine HC2.out.mono ?_); rintro e u2 ⟨rfl, hq2⟩; clear cc; have HQ := Lib.hid hq2; clear hq2 HC2)
    | (go_at_call 63; (with_reducible refine HC1.out.mono ?_); rintro e u1 ⟨rfl, hq1⟩; clear cc; have cc := (OpBlk.of hq1.op HR.out).refs; have HC2 := Lib.hid (HC2.out u1 hq1); clear hq1 HC1)
    | (go_at_call 63; (with_reducible refine HC0.out.mono ?_); rintro e u0 ⟨rfl, hq0⟩; clear cc; have cc := (OpBlk.of hq0.op HR.out).val; rw [← HTV.out] at cc; have HC1 := Lib.hid (HC1.out u0 hq0); clear hq0 HC0))
  go_end0
  refine ⟨rfl, ?_, HQ.out.turn⟩
  rw [HE.out]
  exact WrIs.sub HQ.out.wr fun b _ hb => hb.1

set_option maxHeartbeats 4000000 in
set_option maxRecDepth 100000 in
theorem write3 (B g : Nat) (out : List UInt8) (o : Opn) (v : Value) (w : World) (hk : o.k = 3) (h : oct.WrIs w (B ≤ ·) g out 0) (hn : New (B ≤ ·) w) (hl : out.length ≤ 10) (hr : o.ref.length = 32) (lk : o.key.length ≤ 16) (lv : o.val.length ≤ 16) (ls : o.refs.length ≤ 8)
    (hN : Part.N ∈ has o.k → 0 ≤ o.n + off o.k ∧ o.n + off o.k < 4294967296) (hv : ∀ u, Turn (B ≤ ·) w u → RdV u v o.refs) :
    Calls Tryd.prog 38 #[.pointer (some ⟨g, 0, none⟩), opv o v] w fun e w' => e = .returned (.tuple #[]) ∧ oct.WrIs w' (B ≤ ·) g (out ++ encs o (has o.k)) 0 ∧ Turn (B ≤ ·) w w' := by
  obtain ⟨w1, hw1⟩ : ∃ u, u = w.alloc (.cells (opc o v).toArray 26) := ⟨_, rfl⟩
  obtain ⟨S, hS⟩ : ∃ S, S = w.heap.size := ⟨_, rfl⟩
  have hB : Below w.heap.size w w1 := by rw [hw1]; exact (Below.refl _ _).alloc (Nat.le_refl _) _
  have hsz : w1.heap.size = S + 1 := by rw [hw1, hS]; simp
  have hBS : B ≤ S := by rw [hS]; exact hn _ (Nat.le_refl _)
  have HQ0 : WrP B g S o v w out w1 := ⟨by rw [hw1, hS]; exact Blk.new w _ _, (WrIs.sub h fun b hb hF => (⟨hF, by omega⟩ : WF B S b)).fresh hB, Turn.fresh hB hn, fun b hb => ⟨by rw [hsz] at hb; omega, by rw [hsz] at hb; omega⟩⟩
  have EL := Lib.hid (enc_len lk lv hr (fun x hx => (hv w (Turn.refl _ _)).ok x hx) ls)
  have c0 := (OpBlk.of HQ0.op hr).k
  rw [hk] at c0
  have HE : Hid (out ++ encs o (has o.k) = out ++ txt o.val ++ idl o.refs) := Lib.hid (by rw [hk]; show out ++ (([.V, .S] : List Part).map (enc o)).flatten = _; simp [enc])
  have HLO := Lib.hid hl
  have HC0 := Lib.hid (fun (u : World) (hq : WrP B g S o v w (out) u) => wp_text hq (by have := HLO.out; omega) o.val lv)
  have HC1 := Lib.hid (fun (u : World) (hq : WrP B g S o v w (out ++ txt o.val) u) => wp_ids hq (by have := (show (txt o.val).length ≤ 257 from EL.out .V); have := HLO.out; simp only [List.length_append]; omega) o.refs ls hv)
  have HR := Lib.hid hr
  have HW := Lib.hid hw1
  have HS := Lib.hid hS
  obtain ⟨tV, htV⟩ : ∃ t, t = oct.tx o.val := ⟨_, rfl⟩
  have HTV := Lib.hid htV
  rw [← htV] at HC0
  have HC0 := Lib.hid (HC0.out w1 HQ0)
  have cc := (OpBlk.of HQ0.op HR.out).val
  rw [← HTV.out] at cc
  clear hw1 hB hsz hBS hS EL lk lv ls hN hv h hn hl hr hk HQ0 htV
  unfold opv
  go_enter Tryd.func38, Tryd.ntmps38
  go_upto_region 1 with fail
  refine wp_at HW.out.symm ?_
  rw [← HS.out]
  clear HW
  go_wp2_with (first
    | (go_at_call 62; (with_reducible refine HC1.out.mono ?_); rintro e u1 ⟨rfl, hq1⟩; clear cc; have HQ := Lib.hid hq1; clear hq1 HC1)
    | (go_at_call 63; (with_reducible refine HC0.out.mono ?_); rintro e u0 ⟨rfl, hq0⟩; clear cc; have cc := (OpBlk.of hq0.op HR.out).refs; have HC1 := Lib.hid (HC1.out u0 hq0); clear hq0 HC0))
  go_end0
  refine ⟨rfl, ?_, HQ.out.turn⟩
  rw [HE.out]
  exact WrIs.sub HQ.out.wr fun b _ hb => hb.1
end Go.Proofs.YtmaolmogccknbaaDoor.opn

namespace Go.Proofs.YtmaolmogccknbaaDoor.opn
open Go.RowKit Go.Proofs.YtmaolmogccknbaaDoor.mem Go.Proofs.YtmaolmogccknbaaDoor.sha Go.Proofs.YtmaolmogccknbaaDoor.ids

set_option maxHeartbeats 4000000 in
set_option maxRecDepth 100000 in
theorem write6 (B g : Nat) (out : List UInt8) (o : Opn) (v : Value) (w : World) (hk : o.k = 6) (h : oct.WrIs w (B ≤ ·) g out 0) (hn : New (B ≤ ·) w) (hl : out.length ≤ 10) (hr : o.ref.length = 32) (lk : o.key.length ≤ 16) (lv : o.val.length ≤ 16) (ls : o.refs.length ≤ 8)
    (hN : Part.N ∈ has o.k → 0 ≤ o.n + off o.k ∧ o.n + off o.k < 4294967296) (hv : ∀ u, Turn (B ≤ ·) w u → RdV u v o.refs) :
    Calls Tryd.prog 38 #[.pointer (some ⟨g, 0, none⟩), opv o v] w fun e w' => e = .returned (.tuple #[]) ∧ oct.WrIs w' (B ≤ ·) g (out ++ encs o (has o.k)) 0 ∧ Turn (B ≤ ·) w w' := by
  obtain ⟨w1, hw1⟩ : ∃ u, u = w.alloc (.cells (opc o v).toArray 26) := ⟨_, rfl⟩
  obtain ⟨S, hS⟩ : ∃ S, S = w.heap.size := ⟨_, rfl⟩
  have hB : Below w.heap.size w w1 := by rw [hw1]; exact (Below.refl _ _).alloc (Nat.le_refl _) _
  have hsz : w1.heap.size = S + 1 := by rw [hw1, hS]; simp
  have hBS : B ≤ S := by rw [hS]; exact hn _ (Nat.le_refl _)
  have HQ0 : WrP B g S o v w out w1 := ⟨by rw [hw1, hS]; exact Blk.new w _ _, (WrIs.sub h fun b hb hF => (⟨hF, by omega⟩ : WF B S b)).fresh hB, Turn.fresh hB hn, fun b hb => ⟨by rw [hsz] at hb; omega, by rw [hsz] at hb; omega⟩⟩
  have EL := Lib.hid (enc_len lk lv hr (fun x hx => (hv w (Turn.refl _ _)).ok x hx) ls)
  have c0 := (OpBlk.of HQ0.op hr).k
  rw [hk] at c0
  have HE : Hid (out ++ encs o (has o.k) = out ++ o.ref ++ txt o.val) := Lib.hid (by rw [hk]; show out ++ (([.R, .V] : List Part).map (enc o)).flatten = _; simp [enc])
  have HLO := Lib.hid hl
  have HC0 := Lib.hid (fun (u : World) (hq : WrP B g S o v w (out) u) => wp_id hq (by have := HLO.out; omega) o.ref hr)
  have HC1 := Lib.hid (fun (u : World) (hq : WrP B g S o v w (out ++ o.ref) u) => wp_text hq (by have := (show o.ref.length ≤ 257 from EL.out .R); have := HLO.out; simp only [List.length_append]; omega) o.val lv)
  have HR := Lib.hid hr
  have HW := Lib.hid hw1
  have HS := Lib.hid hS
  obtain ⟨tV, htV⟩ : ∃ t, t = oct.tx o.val := ⟨_, rfl⟩
  have HTV := Lib.hid htV
  rw [← htV] at HC1
  have HC0 := Lib.hid (HC0.out w1 HQ0)
  have cc := (OpBlk.of HQ0.op HR.out).ref 0
  clear hw1 hB hsz hBS hS EL lk lv ls hN hv h hn hl hr hk HQ0 htV
  unfold opv
  go_enter Tryd.func38, Tryd.ntmps38
  go_upto_region 1 with fail
  refine wp_at HW.out.symm ?_
  rw [← HS.out]
  clear HW
  go_wp2_with (first
    | (go_at_call 63; (with_reducible refine HC1.out.mono ?_); rintro e u1 ⟨rfl, hq1⟩; clear cc; have HQ := Lib.hid hq1; clear hq1 HC1)
    | (go_at_call 64; (with_reducible refine HC0.out.mono ?_); rintro e u0 ⟨rfl, hq0⟩; clear cc; have cc := (OpBlk.of hq0.op HR.out).val; rw [← HTV.out] at cc; have HC1 := Lib.hid (HC1.out u0 hq0); clear hq0 HC0)
    | ((with_reducible refine step_load (t := 23) (x := .tmp 50) (p := ?lpwq6) (v := ?lvwq6) ?lgwq6 ?lowq6 ?lxwq6 ?lrwq6 ?lhwq6); (case lgwq6 => rfl); (case lowq6 => rfl); (case lxwq6 => rfl); (case lrwq6 => exact cc)))
  go_end0
  refine ⟨rfl, ?_, HQ.out.turn⟩
  rw [HE.out]
  exact WrIs.sub HQ.out.wr fun b _ hb => hb.1

set_option maxHeartbeats 4000000 in
set_option maxRecDepth 100000 in
theorem write7 (B g : Nat) (out : List UInt8) (o : Opn) (v : Value) (w : World) (hk : o.k = 7) (h : oct.WrIs w (B ≤ ·) g out 0) (hn : New (B ≤ ·) w) (hl : out.length ≤ 10) (hr : o.ref.length = 32) (lk : o.key.length ≤ 16) (lv : o.val.length ≤ 16) (ls : o.refs.length ≤ 8)
    (hN : Part.N ∈ has o.k → 0 ≤ o.n + off o.k ∧ o.n + off o.k < 4294967296) (hv : ∀ u, Turn (B ≤ ·) w u → RdV u v o.refs) :
    Calls Tryd.prog 38 #[.pointer (some ⟨g, 0, none⟩), opv o v] w fun e w' => e = .returned (.tuple #[]) ∧ oct.WrIs w' (B ≤ ·) g (out ++ encs o (has o.k)) 0 ∧ Turn (B ≤ ·) w w' := by
  obtain ⟨w1, hw1⟩ : ∃ u, u = w.alloc (.cells (opc o v).toArray 26) := ⟨_, rfl⟩
  obtain ⟨S, hS⟩ : ∃ S, S = w.heap.size := ⟨_, rfl⟩
  have hB : Below w.heap.size w w1 := by rw [hw1]; exact (Below.refl _ _).alloc (Nat.le_refl _) _
  have hsz : w1.heap.size = S + 1 := by rw [hw1, hS]; simp
  have hBS : B ≤ S := by rw [hS]; exact hn _ (Nat.le_refl _)
  have HQ0 : WrP B g S o v w out w1 := ⟨by rw [hw1, hS]; exact Blk.new w _ _, (WrIs.sub h fun b hb hF => (⟨hF, by omega⟩ : WF B S b)).fresh hB, Turn.fresh hB hn, fun b hb => ⟨by rw [hsz] at hb; omega, by rw [hsz] at hb; omega⟩⟩
  have EL := Lib.hid (enc_len lk lv hr (fun x hx => (hv w (Turn.refl _ _)).ok x hx) ls)
  have c0 := (OpBlk.of HQ0.op hr).k
  rw [hk] at c0
  have HE : Hid (out ++ encs o (has o.k) = out ++ o.ref) := Lib.hid (by rw [hk]; show out ++ (([.R] : List Part).map (enc o)).flatten = _; simp [enc])
  have HLO := Lib.hid hl
  have HC0 := Lib.hid (fun (u : World) (hq : WrP B g S o v w (out) u) => wp_id hq (by have := HLO.out; omega) o.ref hr)
  have HR := Lib.hid hr
  have HW := Lib.hid hw1
  have HS := Lib.hid hS
  have HC0 := Lib.hid (HC0.out w1 HQ0)
  have cc := (OpBlk.of HQ0.op HR.out).ref 0
  clear hw1 hB hsz hBS hS EL lk lv ls hN hv h hn hl hr hk HQ0
  unfold opv
  go_enter Tryd.func38, Tryd.ntmps38
  go_upto_region 1 with fail
  refine wp_at HW.out.symm ?_
  rw [← HS.out]
  clear HW
  go_wp2_with (first
    | (go_at_call 64; (with_reducible refine HC0.out.mono ?_); rintro e u0 ⟨rfl, hq0⟩; clear cc; have HQ := Lib.hid hq0; clear hq0 HC0)
    | ((with_reducible refine step_load (t := 23) (x := .tmp 58) (p := ?lpwq7) (v := ?lvwq7) ?lgwq7 ?lowq7 ?lxwq7 ?lrwq7 ?lhwq7); (case lgwq7 => rfl); (case lowq7 => rfl); (case lxwq7 => rfl); (case lrwq7 => exact cc)))
  go_end0
  refine ⟨rfl, ?_, HQ.out.turn⟩
  rw [HE.out]
  exact WrIs.sub HQ.out.wr fun b _ hb => hb.1
end Go.Proofs.YtmaolmogccknbaaDoor.opn
