/- Maps that are keyed by beds: a look-up that finds nothing, a store of a new key. No conditions. -/
import Derived.Test.YtambkcchnmbaoaaUe
import Derived.LaidEql
import Derived.Laws.StructEq
import Derived.Maps.RangeRun
namespace Go.Proofs.Ytambkcchnmbaoaa
open Go.RowKit Go.PlainAid
open Go.ChangeMaps (setBlock)

/-- A bed: where a list of kids lies, and how long it is. -/
abbrev bedV (b n : Nat) : Value := .agg #[.pointer (some ⟨b, 0, none⟩), .int .i64 (n : Int)]
/-- A block of cells none of which is frozen. -/
def Plainly (w : World) (b : Nat) : Prop := ∃ C t, w.heap[b]? = some (.cells C t (0, 0))
set_option maxRecDepth 100000 in
theorem bed_ne (w : World) (b n b' n' d : Nat) (h : b ≠ b') (hb : Plainly w b) (hb' : Plainly w b') : (Op.equalIn (d + 2) 106 (bedV b n) (bedV b' n')).run Try.prog w = .ok false w := by
  obtain ⟨C, t, hC⟩ := hb
  obtain ⟨C', t', hC'⟩ := hb'
  have hs := run_sameAddr_other (P := Try.prog) w (a := ⟨b, 0, none⟩) (b := ⟨b', 0, none⟩) (fun e => h (by injection e)) hC hC'
  simp [Op.equalIn, run_underlying Try.underlying106, run_underlying Try.underlying104, go_sem, hs]
/-- Entries none of which is at the bed's key. -/
def NoBed (w : World) (b : Nat) (es : List MapEntry) : Prop := ∀ x ∈ es, ∃ b' n', x.key = bedV b' n' ∧ b ≠ b' ∧ Plainly w b'
theorem find_miss (w : World) (b n : Nat) (hb : Plainly w b) : ∀ (es : List MapEntry) (i : Nat), NoBed w b es → (Instr.findAsking 106 (bedV b n) es i).run Try.prog w = .ok none w
  | [], i, _ => rfl
  | x :: t, i, h => by
    obtain ⟨b', n', hk, hne, hp⟩ := h x (List.mem_cons_self ..)
    have h1 : (Op.equal 106 (bedV b n) x.key).run Try.prog w = .ok false w := by
      rw [hk]; exact bed_ne w b n b' n' 9998 hne hb hp
    have ih := find_miss w b n hb t (i + 1) (fun y hy => h y (List.mem_cons_of_mem _ hy))
    simp only [Instr.findAsking, Sem.run_bind, h1, Result.andThen_ok, Bool.false_eq_true, if_false, ih]
theorem findKey_miss (w : World) (b n : Nat) (hb : Plainly w b) (es : List MapEntry) (h : NoBed w b es) : (Instr.findKey 106 (bedV b n) es).run Try.prog w = .ok none w := by
  cases es with
  | nil => simp [Instr.findKey, Instr.findNow, run_underlying Try.underlying106]
  | cons x t =>
    have := find_miss w b n hb (x :: t) 0 h
    simp [Instr.findKey, Instr.findNow, Instr.sameNow, run_underlying Try.underlying106, this]
theorem check_bed (w : World) (b n d : Nat) (em : Bool) : (Instr.checkKey em (d + 2) 106 (bedV b n)).run Try.prog w = .ok () w := by
  simp [Instr.checkKey, run_underlying Try.underlying106, run_underlying Try.underlying104, run_underlying Try.underlying3, go_sem]
theorem look_miss (w : World) (r b n c : Nat) (es : Array MapEntry) (hr : w.heap[r]? = some (.map es c)) (hb : Plainly w b) (h : NoBed w b es.toList) :
    (Instr.lookup 136 (.map (some r)) (bedV b n) false).run Try.prog w = .ok (.agg #[.slice none 0 0, .int .i64 0]) w := by
  simp [Instr.lookup, run_underlying Try.underlying136, getObj, Sem.run, hr, check_bed w b n 9998, findKey_miss w b n hb es.toList h, Result.andThen]
theorem setObj_map {P : Program} {w : World} {r c : Nat} {es : Array MapEntry} (hr : w.heap[r]? = some (.map es c)) (o : Obj) : (setObj r o).run P w = .ok () (setBlock w r o) := by
  simp [setObj, Sem.run, hr, setBlock]
theorem put_miss (T E : Nat) (hT : Try.prog.underlying T = some (.map 106 E)) (w : World) (r b n c : Nat) (v : Value) (es : Array MapEntry) (hr : w.heap[r]? = some (.map es c)) (hb : Plainly w b) (h : NoBed w b es.toList) :
    (Instr.mapUpdate T (.map (some r)) (bedV b n) v).run Try.prog w = .ok () (setBlock w r (.map (es.push ⟨bedV b n, v, c⟩) (c + 1))) := by
  simp [Instr.mapUpdate, run_underlying hT, getObj, Sem.run, hr, check_bed w b n 9998, findKey_miss w b n hb es.toList h, setObj_map hr, Result.andThen]
end Go.Proofs.Ytambkcchnmbaoaa
