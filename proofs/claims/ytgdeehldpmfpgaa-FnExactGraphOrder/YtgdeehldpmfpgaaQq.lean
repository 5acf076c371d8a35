/- The methods of a graphHeap, asked for through heap.Interface. Conditions: the heap lies there. -/
import Derived.Test.YtgdeehldpmfpgaaQp
namespace Go.Proofs.Ytgdeehldpmfpgaa
open Go.RowKit Go.PlainAid
theorem mrow_less : ((Try.prog.info? 77).bind fun i => (i.methods.find? (·.name == "Less")).map fun m => (m.path, m.func)) = some (#[], some (113, false)) := by kernel_rfl
theorem mrow_parts {T : TypeId} {name : String} {r : Array FieldStep × Option (FuncId × Bool)} (h : ((Try.prog.info? T).bind fun i => (i.methods.find? (·.name == name)).map fun m => (m.path, m.func)) = some r) : ∃ i m, Try.prog.info? T = some i ∧ i.methods.find? (·.name == name) = some m ∧ m.path = r.1 ∧ m.func = r.2 := by
  cases hi : Try.prog.info? T with
  | none => rw [hi] at h; simp at h
  | some i =>
    rw [hi] at h
    simp only [Option.bind_some] at h
    cases hm : i.methods.find? (·.name == name) with
    | none => rw [hm] at h; simp at h
    | some m =>
      rw [hm] at h
      simp at h
      subst h
      exact ⟨i, m, rfl, hm, rfl, rfl⟩
theorem und77 : Try.prog.underlying 77 = some (.pointer 50) := by kernel_rfl
theorem und50 : Try.prog.underlying 50 = some (.slice 9) := by kernel_rfl
/-- A method of graphHeap's value, asked for through a pointer to it. -/
theorem m_val {name : String} {F : FuncId} (hrow : ((Try.prog.info? 77).bind fun i => (i.methods.find? (·.name == name)).map fun m => (m.path, m.func)) = some (#[], some (F, false))) (L o : Nat) (so : Option Addr) (n cp k : Nat) (W : World) (hc : W.cell? ⟨L, o, none⟩ = some (.slice so n cp)) : (method (k + 1) 77 (.pointer (some ⟨L, o, none⟩)) name).run Try.prog W = .ok (F, .slice so n cp) W := by
  obtain ⟨i, m, hi, hm, hp, hf⟩ := mrow_parts hrow
  have hw : ∀ (s t : String), (Builtin.ssaWrapNilChk_ #[77] 77 #[.pointer (some ⟨L, o, none⟩), strVal s, strVal t]).run Try.prog W = .ok (.pointer (some ⟨L, o, none⟩)) W := fun _ _ => rfl
  unfold method
  simp [typeInfo, hi, hm, hp, hf, follow, receiverAt, run_underlying und77, Place.get, hw, asAddr, loadVar, isAgg, run_underlying und50, go_sem, hc]
theorem m_ptr {name : String} {F : FuncId} (hrow : ((Try.prog.info? 77).bind fun i => (i.methods.find? (·.name == name)).map fun m => (m.path, m.func)) = some (#[], some (F, true))) (P : Addr) (k : Nat) (W : World) : (method (k + 1) 77 (.pointer (some P)) name).run Try.prog W = .ok (F, .pointer (some P)) W := by
  obtain ⟨i, m, hi, hm, hp, hf⟩ := mrow_parts hrow
  unfold method
  simp [typeInfo, hi, hm, hp, hf, follow, receiverAt, run_underlying und77, Place.get]
theorem mrow_swap : ((Try.prog.info? 77).bind fun i => (i.methods.find? (·.name == "Swap")).map fun m => (m.path, m.func)) = some (#[], some (114, false)) := by kernel_rfl
theorem mrow_len : ((Try.prog.info? 77).bind fun i => (i.methods.find? (·.name == "Len")).map fun m => (m.path, m.func)) = some (#[], some (33, false)) := by kernel_rfl
theorem mrow_push : ((Try.prog.info? 77).bind fun i => (i.methods.find? (·.name == "Push")).map fun m => (m.path, m.func)) = some (#[], some (116, true)) := by kernel_rfl
theorem mrow_pop : ((Try.prog.info? 77).bind fun i => (i.methods.find? (·.name == "Pop")).map fun m => (m.path, m.func)) = some (#[], some (115, true)) := by kernel_rfl
end Go.Proofs.Ytgdeehldpmfpgaa
