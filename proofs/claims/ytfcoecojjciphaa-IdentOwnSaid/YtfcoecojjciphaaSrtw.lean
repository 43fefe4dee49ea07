/-
  The library's sort.Slice at a slice type that has a name: its entries' laws; its own body.
-/
import Derived.Test.YtfcoecojjciphaaSrt
import Derived.Shelf.GgSortFunc.Slice
import Derived.Shelf.GgSortFunc.Tiny
namespace Go.Proofs.Ytfcoecojjciphaa.srt
open Go.Extern Go.Extern.Rtype Go.Lib Go.Proofs Go.Shelf
section
variable {P : Program}
theorem nm_under (t u e : TypeId) (nm : String) (i iu : TypeInfo) (hi : P.info? t = some i) (hd : i.desc = .named nm u) (hu : P.info? u = some iu) (hdu : iu.desc = .slice e) (w : World) : (under t).run P w = .ok (u, iu) w := by
  simp [under, rl_info t i hi, hd, rl_info u iu hu, Result.andThen]
theorem nm_kind (t u e : TypeId) (nm : String) (i iu : TypeInfo) (hi : P.info? t = some i) (hd : i.desc = .named nm u) (hu : P.info? u = some iu) (hdu : iu.desc = .slice e) (w : World) : (kind t).run P w = .ok 23 w := by
  simp [kind, nm_under t u e nm i iu hi hd hu hdu, hdu, Result.andThen]
theorem nm_valueOf (t u e : TypeId) (nm : String) (i iu : TypeInfo) (hi : P.info? t = some i) (hd : i.desc = .named nm u) (hu : P.info? u = some iu) (hdu : iu.desc = .slice e) (p : Option Addr) (n c : Nat) (w : World) :
    (ReflectliteValue.unpack (.iface t (.slice p n c))).run P w = .ok (.agg #[typeHandle P t, .pointer (some ⟨w.heap.size, 0, none⟩), .int .u64 151]) (w.alloc (.cells #[.slice p n c] t)) := by
  simp [ReflectliteValue.unpack, ReflectliteValue.mk, newVar, newRow, handle, nm_kind t u e nm i iu hi hd hu hdu, Result.andThen, Value.cells, ReflectliteValue.flagIndir]
theorem nm_underlying (t u e : TypeId) (nm : String) (i iu : TypeInfo) (hi : P.info? t = some i) (hd : i.desc = .named nm u) (hu : P.info? u = some iu) (hdu : iu.desc = .slice e) : P.underlying t = some (.slice e) := by
  obtain ⟨d, _, _, _, _, _, _, _, _, _⟩ := i
  obtain ⟨d', _, _, _, _, _, _, _, _, _⟩ := iu
  simp only at hd hdu
  subst hd
  subst hdu
  simp [Program.underlying, hi, hu]
theorem nm_len (t u e : TypeId) (nm : String) (i iu : TypeInfo) (hi : P.info? t = some i) (hd : i.desc = .named nm u) (hu : P.info? u = some iu) (hdu : iu.desc = .slice e) (hpk : P.packed t = false) (a : Addr) (p : Option Addr) (n c : Nat) (w : World) (ha : w.cell? a = some (.slice p n c)) :
    (ReflectliteValue.method (ReflectliteValue.valueError "reflectlite.Value.Len" 0) ReflectliteValue.len #[.agg #[typeHandle P t, .pointer (some a), .int .u64 151]]).run P w = .ok (.int .i64 n) w := by
  have hu' := nm_underlying t u e nm i iu hi hd hu hdu
  rw [rl_method]
  simp only [Sem.run_bind, run_parts t a hpk w, Result.andThen]
  simp [handleType, typeHandle, ReflectliteValue.len, nm_under t u e nm i iu hi hd hu hdu, hdu, loadVar, isAgg, underlying, hu', ha, Builtin.len_, goInt, Result.andThen]
theorem nm_elem (t u e : TypeId) (nm : String) (i iu : TypeInfo) (hi : P.info? t = some i) (hd : i.desc = .named nm u) (hu : P.info? u = some iu) (hdu : iu.desc = .slice e) (w : World) : (elem? t).run P w = .ok (some e) w := by
  simp [elem?, nm_under t u e nm i iu hi hd hu hdu, hdu, Result.andThen]
theorem nm_swapper (t u e : TypeId) (nm : String) (i iu ie : TypeInfo) (hi : P.info? t = some i) (hd : i.desc = .named nm u) (hu : P.info? u = some iu) (hdu : iu.desc = .slice e) (hie : P.info? e = some ie) (ke : Nat) (hke : ∀ w, (kind e).run P w = .ok ke w)
    (p : Option Addr) (n c : Nat) (f : Nat) (hf : P.funcs.findIdx? (·.name == "internal/reflectlite" ++ ".Swapper$" ++ toString (swapperK n ie ke)) = some f) (w : World) :
    (ReflectliteSwapper.swapper "internal/reflectlite" (ReflectliteValue.valueError "Swapper") #[.iface t (.slice p n c)]).run P w
      = .ok (.func (.func f) #[] (if swapperK n ie ke ≤ 2 then #[] else #[.slice p n c, typeHandle P e])) w := by
  rw [rl_swapper]
  simp only [Sem.run_bind, nm_elem t u e nm i iu hi hd hu hdu, Result.andThen, rl_info e ie hie, hke, handle, Sem.run_pure]
  change Sem.run P (ReflectliteSwapper.literal "internal/reflectlite" (swapperK n ie ke) (if swapperK n ie ke ≤ 2 then #[] else #[.slice p n c, typeHandle P e])) w = _
  simp at hf
  simp [ReflectliteSwapper.literal, hf, Result.andThen]
end

noncomputable def tiL : TypeInfo := (Try.prog.info? 48).get (by kernel_rfl)
noncomputable def tiS : TypeInfo := (Try.prog.info? 33).get (by kernel_rfl)
noncomputable def tiE : TypeInfo := (Try.prog.info? 23).get (by kernel_rfl)
theorem descL : tiL.desc = .named "petrel/ident.list" 33 := by kernel_rfl
theorem descS : tiS.desc = .slice 23 := by kernel_rfl
theorem infoL : Try.prog.info? 48 = some tiL := by kernel_rfl
theorem infoS : Try.prog.info? 33 = some tiS := by kernel_rfl
theorem infoE : Try.prog.info? 23 = some tiE := by kernel_rfl
theorem kindE (w : World) : (kind 23).run Try.prog w = .ok 17 w := by kernel_rfl
theorem litK (n : Nat) (h2 : 2 ≤ n) : swapperK n tiE 17 = 9 := by
  have a : tiE.hasPointers = false := by kernel_rfl
  have b : tiE.bytes = 32 := by kernel_rfl
  have c : (n == 0) = false := by simp; omega
  have d : (n == 1) = false := by simp; omega
  simp [swapperK, a, b, c, d]

/-- the world in which the sort itself is called -/
noncomputable def slW (p : Option Addr) (n c : Nat) (w : World) : World :=
  (w.alloc (.cells #[.slice p n c] 48)).alloc (.cells #[typeHandle Try.prog 48, .pointer (some ⟨w.heap.size, 0, none⟩), .int .u64 151] 61)
theorem slW_below (p : Option Addr) (n c : Nat) (w : World) : RowKit.Below w.heap.size w (slW p n c w) := ((RowKit.Below.refl _ w).alloc (Nat.le_refl _) _).alloc (by simp) _

set_option maxHeartbeats 2000000 in
set_option maxRecDepth 100000 in
theorem slice_of_pdq (p : Option Addr) (n c : Nat) (hn : n < 4611686018427387904) (f : Nat) (hf : Try.prog.funcs.findIdx? (·.name == "internal/reflectlite" ++ ".Swapper$" ++ toString (swapperK n tiE 17)) = some f) (lf : Fn) (la lb : Array Value) (w : World) (R : World → Prop)
    (hp : Calls Try.prog 50 #[.agg #[.func lf la lb, .func (.func f) #[] (sliceBound Try.prog 23 tiE 17 p n c)], .int .i64 0, .int .i64 n, .int .i64 (Lib.bitLen n)] (slW p n c w) fun e w' => e = .returned (.tuple #[]) ∧ R w') :
    Calls Try.prog 36 #[.iface 48 (.slice p n c), .func lf la lb] w fun e w' => e = .returned (.tuple #[]) ∧ R w' := by
  have L := lays
  have hv := nm_valueOf 48 33 23 _ tiL tiS infoL descL infoS descS p n c w
  have hs := fun w => nm_swapper 48 33 23 _ tiL tiS tiE infoL descL infoS descS infoE 17 kindE p n c f hf w
  have hl := fun a w ha => nm_len 48 33 23 _ tiL tiS infoL descL infoS descS (by kernel_rfl) a p n c w ha
  have hb := fun w => Any.bits_Len (LaysGg.n13.bits (P := Try.prog) (ρ := ren) { L with }) (n : Int) w (by omega) (by omega)
  change ∀ w, Calls Try.prog 49 _ w _ at hb
  unfold sliceBound slW at hp
  generalize (if swapperK n tiE 17 ≤ 2 then (#[] : Array Value) else #[.slice p n c, typeHandle Try.prog 23]) = B at hs hp
  obtain ⟨g, hg⟩ : ∃ g, typeHandle Try.prog 48 = .pointer (some ⟨g, 48, none⟩) := ⟨_, rfl⟩
  rw [hg] at hv hp
  simp only [hg] at hl
  clear hg
  have wr : IntKind.u64.wrap (n : Int) = n := by simp [IntKind.wrap, IntKind.bits, IntKind.signed]; omega
  have f10 := L.f10
  have f11 := L.f11
  have f12 := L.f12
  change Try.prog.funcs[46]? = _ at f10
  change Try.prog.funcs[47]? = _ at f11
  change Try.prog.funcs[48]? = _ at f12
  go_enter Try.func36, Try.ntmps36
  go_wp2_with fail
  rw [run_callFunc_extern f10 (by kernel_rfl) (by kernel_rfl) (by kernel_rfl) (e := fun args => Extern.ReflectliteValue.unpack (args.getD 0 (.tuple #[]))) (by kernel_rfl),
    show Sem.run Try.prog ((fun args : Array Value => Extern.ReflectliteValue.unpack (args.getD 0 (.tuple #[]))) #[.iface 48 (.slice p n c)]) w = _ from hv]
  simp only [Result.andThen]
  rw [Oper.upon_value]
  go_wp2_with fail
  rw [run_callFunc_extern f11 (by kernel_rfl) (by kernel_rfl) (by kernel_rfl) (e := Extern.ReflectliteSwapper.swapper "internal/reflectlite" (Extern.ReflectliteValue.valueError "Swapper")) (by kernel_rfl), hs]
  simp only [Result.andThen]
  rw [Oper.upon_value]
  go_wp2_with fail
  rw [run_callFunc_extern f12 (by kernel_rfl) (by kernel_rfl) (by kernel_rfl) (e := Extern.ReflectliteValue.method (Extern.ReflectliteValue.valueError "reflectlite.Value.Len" 0) Extern.ReflectliteValue.len) (by kernel_rfl),
    hl _ _ (by simp)]
  simp only [Result.andThen]
  rw [Oper.upon_value]
  go_wp2_with (first
    | (go_at_call 49; refine (hb _).mono ?_; rintro e w' ⟨rfl, rfl⟩)
    | (go_at_call 50; refine hp.mono ?_; rintro e w' ⟨rfl, hR⟩))
  go_end0
  exact ⟨rfl, hR⟩
end Go.Proofs.Ytfcoecojjciphaa.srt
