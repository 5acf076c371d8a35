/- Rows of faces: the walks of szTypeFaceS, eqTypeFaceS, toTypeFaceS. Conditions: the rows can be read. And: Faces of modules that are used, in memory. No conditions. The walks of szTypeFace, eqTypeFace and toTypeFace. No conditions. The walk of spec.l4Sig: a line in new memory. Conditions: the line can be read. And: The walk of spec.l4Sig: a line in new memory. Conditions: the line can be read. The library's contract for stringslite.Clone, laid at this translation's numbers, and the walk of strings.Clone. No conditions but that the text is a Go string. The walk of impl.faceSigOf: the signature of a function, in new memory. Conditions: the function can be read, and weighs at most 2^20. The walks of slices.Index and slices.Contains at words, of slices.IndexFunc at faces and of impl.typeFacePlace. Conditions: the rows can be read. What is known of a function that a module may call: plain. No conditions. The walk of impl.TypeFind at a name of the module itself. Conditions: the module can be read, and weighs at most 2^20. The walk of impl.TypeFind at a name of another module. Conditions: the module and the faces can be read, and weigh at most 2^20. The walk of spec.l3Of: the signature of a function, in new memory. Conditions: the function can be read, and weighs at most 2^20. The walk of spec.TypeFind. Conditions: the module and the faces can be read, and weigh at most 2^20. -/
import Derived.Test.YtgmohnbjfemebaaGreatDoorFe
import Derived.Test.YtgmohnbjfemebaaGreatDoorHa
import Derived.Laws.AppendOwn
import Derived.Deep.AppendSrc
import Derived.Shelf.LaysM
import Derived.Shelf.Strconv.Clone
import Derived.Test.YtgmohnbjfemebaaGreatDoorFa
import Derived.Test.YtgmohnbjfemebaaGreatDoorUe
import Derived.Deep.CutRange
import Derived.Deep.RegionWith
import Derived.Test.YtgmohnbjfemebaaGreatDoorUa
import Derived.Test.YtgmohnbjfemebaaGreatDoorUc
import Derived.Deep.AppendLies
import Derived.Deep.RegionLaw
namespace Go.Proofs.YtgmohnbjfemebaaGreatDoor
open Go.RowKit Go.PlainAid

/-- The face of a module that is used. -/
structure TY where
  mod : ByteArray
  sigs : List TS
def TY.wt (s : TY) : Nat := s.mod.size + (s.sigs.length + wtSigs s.sigs)
/-- A value that is such a face, its lines in the blocks from lo on and below n. -/
def IsFace (w : World) (lo n : Nat) (v : Value) (s : TY) : Prop :=
  ∃ (aa : Option Addr) (ca : Nat), v = .agg #[.string s.mod, .slice aa s.sigs.length ca] ∧ (s.mod.size ≤ maxLen ∧ s.sigs.length ≤ maxLen) ∧ IsSigs (IsSig w lo n) w lo n aa s.sigs
theorem IsFace.same {w w' : World} {lo n lo' n' : Nat} (hs : Same lo n w w') (hl : lo' ≤ lo) (hn : n ≤ n') (v : Value) (s : TY) (h : IsFace w lo n v s) : IsFace w' lo' n' v s := by
  obtain ⟨aa, ca, hv, hz, ha⟩ := h
  exact ⟨aa, ca, hv, hz, ha.mono (fun v e he => IsSig.same hs hl hn v e he) hs hl hn⟩
theorem IsFace.kept {w w' : World} {lo n m : Nat} {v : Value} {s : TY} (h : IsFace w lo n v s) (hb : Below n w w') (hnm : n ≤ m) : IsFace w' lo m v s := IsFace.same (Below.same hb) (Nat.le_refl _) hnm v s h
theorem IsFace.form {w : World} {lo n : Nat} {c0 c1 : Value} {s : TY} (h : IsFace w lo n (.agg #[c0, c1]) s) : ∃ (xs : ByteArray) (xa : Option Addr) (xl xc : Nat), c0 = .string xs ∧ c1 = .slice xa xl xc := by
  obtain ⟨aa, ca, hv, hz, ha⟩ := h
  simp only [Value.agg.injEq, Array.mk.injEq, List.cons.injEq] at hv
  exact ⟨_, _, _, _, hv.1, hv.2.1⟩

/-- A row that can be read, all of it in the blocks from lo on and below n, each element as R says. -/
def IsFaces (R : Value → TY → Prop) (w : World) (lo n : Nat) (a : Option Addr) (xs : List TY) : Prop :=
  xs = [] ∨ ∃ b off : Nat, a = some ⟨b, off, none⟩ ∧ lo ≤ b ∧ b < n ∧ ∀ j (hj : j < xs.length), ∃ c0 c1 : Value,
    w.cell? ⟨b, off + j * 2, none⟩ = some c0 ∧ w.cell? ⟨b, off + j * 2 + 1, none⟩ = some c1 ∧ R (.agg #[c0, c1]) xs[j]
theorem IsFaces.mono {R R' : Value → TY → Prop} {w w' : World} {lo n lo' n' : Nat} {a : Option Addr} {xs : List TY} (h : IsFaces R w lo n a xs) (hR : ∀ v e, R v e → R' v e) (hs : Same lo n w w') (hl : lo' ≤ lo) (hn : n ≤ n') : IsFaces R' w' lo' n' a xs := by
  rcases h with h | ⟨b, off, h1, h0, h2, h3⟩
  · exact .inl h
  · refine .inr ⟨b, off, h1, by omega, by omega, fun j hj => ?_⟩
    obtain ⟨c0, c1, d0, d1, hr⟩ := h3 j hj
    have hc : ∀ o, w'.cell? ⟨b, o, none⟩ = w.cell? ⟨b, o, none⟩ := fun o => World.cell?_of_block (w := w) (hs b h0 h2)
    exact ⟨c0, c1, (hc _).trans d0, (hc _).trans d1, hR _ _ hr⟩
theorem IsFaces.kept  {w w' : World} {lo n m : Nat} {a : Option Addr} {xs : List TY} (hk : IsFaces (IsFace w lo n) w lo n a xs) (hb : Below n w w') (hnm : n ≤ m) : IsFaces (IsFace w' lo m) w' lo m a xs :=
  hk.mono (fun v e he => IsFace.same  (Below.same hb) (Nat.le_refl _) hnm v e he) (Below.same hb) (Nat.le_refl _) hnm
def wtFaces (l : List TY) : Nat := (l.map TY.wt).sum
theorem wtFace_step (xs : List TY) (k : Nat) (h : k < xs.length) : wtFaces (xs.take (k + 1)) = wtFaces (xs.take k) + xs[k].wt := by
  unfold wtFaces; rw [List.take_succ_eq_append_getElem h, List.map_append, List.sum_append]; simp
theorem wtFace_le (xs : List TY) (k : Nat) : wtFaces (xs.take k) ≤ wtFaces xs := by
  have : wtFaces xs = wtFaces (xs.take k) + wtFaces (xs.drop k) := by
    unfold wtFaces
    conv => lhs; rw [← List.take_append_drop k xs]
    rw [List.map_append, List.sum_append]
  omega

/-- The contract of the element's weighing. -/
def SzFace (lo : Nat)  : Prop := ∀ (v : Value) (e : TY) (w : World) (left : Int), (IsFace w lo w.heap.size) v e → 0 ≤ left → left ≤ 1048576 →
  Calls Tryz.prog 48 #[v, .int .i64 left] w fun r w' => r = .returned (.int .i64 (leftI left e.wt)) ∧ Below w.heap.size w w'

set_option maxHeartbeats 1000000 in
theorem szTreeFaceS_of (lo : Nat)  (H : SzFace lo ) (a : Option Addr) (cap : Nat) (kids : List TY) (w : World) (left : Int) (hk : IsFaces (IsFace w lo w.heap.size) w lo w.heap.size a kids) (hl : kids.length ≤ maxLen) (h0 : 0 ≤ left) (h1 : left ≤ 1048576) :
    Calls Tryz.prog 15 #[.slice a kids.length cap, .int .i64 left] w fun r w' => r = .returned (.int .i64 (leftI left (kids.length + wtFaces kids))) ∧ Below w.heap.size w w' := by
  unfold maxLen at hl
  have HK := hide hk
  have HH := hide H
  clear hk H
  by_cases hb : left < (kids.length : Int)
  · have HF := hide (left_no (left := left) (n := kids.length + wtFaces kids) (by omega))
    go_enter Tryz.func15, Tryz.ntmps15
    go_wp2
    go_ret
    exact ⟨ret_int (unhide HF).symm, Below.refl _ _⟩
  obtain ⟨L, hL⟩ := Int.eq_ofNat_of_zero_le (show 0 ≤ left - kids.length by omega)
  have HL := hide hL
  have hL2 : L ≤ 1048576 := by omega
  go_enter Tryz.func15, Tryz.ntmps15
  go_wp2
  go_loopw [1, 5] (fun l i wr => ∃ k M : Nat, k ≤ kids.length ∧ i = .int .i64 k ∧ l = .int .i64 M ∧ M ≤ 1048576 ∧ Hid (wtFaces (kids.take k) + M = L) ∧ Hid (Below w.heap.size w wr)) (fun _ i _ => kids.length - (intOf i).toNat)
  case atStart => exact ⟨0, L, Nat.zero_le _, rfl, by rw [← unhide HL], hL2, hide (by simp [wtFaces]), hide (Below.refl _ _)⟩
  case round =>
    obtain ⟨k, M, hk, rfl, rfl, hM, HS, HB⟩ := hrel
    by_cases hp : k < kids.length
    · rcases (unhide HK).kept (unhide HB) (unhide HB).size with hq | ⟨b, off, rfl, hbl, hbn, hcs⟩
      · rw [hq] at hp; simp at hp
      obtain ⟨c0, c1, d0, d1, hr⟩ := hcs k hp
      have hs1 := wtFace_step kids k hp
      have hs3 := wtFace_le kids (k + 1)
      generalize kids[k] = e at hr hs1
      have HR := hide hr
      have HX1 := hide hs1
      have HX3 := hide hs3
      clear hcs hr hs1 hs3
      go_wp2_with fail
      refine (unhide HH _ e wr M (unhide HR) (by omega) (by omega)).mono ?_
      rintro r w2 ⟨rfl, hb2⟩
      have HB2 := hide ((unhide HB).trans (hb2.mono (unhide HB).size))
      clear hb2 HB d0 d1 HR
      by_cases hw : e.wt ≤ M
      · have el : leftI (M : Int) e.wt = ((M - e.wt : Nat) : Int) := by rw [left_yes (by omega)]; omega
        rw [el]
        obtain ⟨M', hM'⟩ : ∃ M', M - e.wt = M' := ⟨_, rfl⟩
        rw [hM']
        have HM := hide hM'
        have hM2 : M' ≤ 1048576 := by omega
        have HWT := hide hw
        clear el hM' hw
        go_wp2
        go_roundw
        case rel => exact ⟨k + 1, M', by omega, by go_num, rfl, hM2, hide (by rw [unhide HX1]; have := unhide HM; have := unhide HS; have := unhide HWT; omega), HB2⟩
        case measure => simp [intOf] <;> omega
      · have el : leftI (M : Int) e.wt = -1 := left_no (by omega)
        rw [el]
        have HF : Hid (leftI left (kids.length + wtFaces kids) = -1) := hide (left_no (by have := unhide HX1; have := unhide HX3; have := unhide HS; have := unhide HL; omega))
        clear el hw
        go_wp2
        go_ret
        exact ⟨ret_int (unhide HF).symm, unhide HB2⟩
    · have HF : Hid (leftI left (kids.length + wtFaces kids) = (M : Int)) := hide (by
        have e : kids.take k = kids := List.take_of_length_le (by omega)
        have h1 := unhide HS
        rw [e] at h1
        have h2 := unhide HL
        rw [left_yes (by omega)]; omega)
      go_wp2
      go_ret
      exact ⟨ret_int (unhide HF).symm, unhide HB⟩

/-- The contract of the element's comparing, at elements that are the same. -/
def EqFace (lo lo' : Nat)   : Prop := ∀ (v v' : Value) (e : TY) (w : World), (IsFace w lo w.heap.size) v e → (IsFace w lo' w.heap.size) v' e →
  Calls Tryz.prog 58 #[v, v'] w fun r w' => r = .returned (.bool true) ∧ Below w.heap.size w w'
set_option maxHeartbeats 1000000 in
theorem eqTreeFaceS_of (lo lo' : Nat)   (H : EqFace lo lo'  ) (a a' : Option Addr) (cap cap' : Nat) (kids : List TY) (w : World) (hl : kids.length ≤ maxLen) (hk : IsFaces (IsFace w lo w.heap.size) w lo w.heap.size a kids) (hk' : IsFaces (IsFace w lo' w.heap.size) w lo' w.heap.size a' kids) :
    Calls Tryz.prog 23 #[.slice a kids.length cap, .slice a' kids.length cap'] w fun r w' => r = .returned (.bool true) ∧ Below w.heap.size w w' := by
  unfold maxLen at hl
  have HK := hide hk
  have HK' := hide hk'
  have HH := hide H
  have hq : ((kids.length : Int) != (kids.length : Int)) = false := by simp
  clear hk hk' H
  go_enter Tryz.func23, Tryz.ntmps23
  go_wp2
  go_loopw [5] (fun i wr => ∃ k : Nat, k ≤ kids.length ∧ i = .int .i64 k ∧ Hid (Below w.heap.size w wr)) (fun i _ => kids.length - (intOf i).toNat)
  case atStart => exact ⟨0, Nat.zero_le _, rfl, hide (Below.refl _ _)⟩
  case round =>
    obtain ⟨k, hk, rfl, HB⟩ := hrel
    by_cases hp : k < kids.length
    · rcases (unhide HK).kept (unhide HB) (unhide HB).size with hq | ⟨b, off, rfl, hbl, hbn, hcs⟩
      · rw [hq] at hp; simp at hp
      rcases (unhide HK').kept (unhide HB) (unhide HB).size with hq | ⟨b', off', rfl, hbl', hbn', hcs'⟩
      · rw [hq] at hp; simp at hp
      obtain ⟨c0, c1, d0, d1, hr⟩ := hcs k hp
      obtain ⟨c0', c1', d0', d1', hr'⟩ := hcs' k hp
      generalize kids[k] = e at hr hr'
      have HR := hide hr
      have HR' := hide hr'
      clear hcs hcs' hr hr'
      have HQ := hide (fun (W : World) (hb : Below wr.heap.size wr W) => unhide HH _ _ e W (IsFace.same  (Below.same hb) (Nat.le_refl _) hb.size _ _ (unhide HR)) (IsFace.same  (Below.same hb) (Nat.le_refl _) hb.size _ _ (unhide HR')))
      clear HR HR'
      go_wp2
      go_region_with (go_at_call 58; refine (unhide HQ _ (Below.refl _ _).drew).mono ?_; rintro r w2 ⟨rfl, hb2⟩)
      all_goals
        go_wp2
        go_roundw
        case rel => exact ⟨k + 1, by omega, by go_num, hide ((unhide HB).drew.trans (hb2.mono (unhide HB).drew.size))⟩
        case measure => simp [intOf] <;> omega
    · go_wp2
      go_ret
      exact ⟨rfl, unhide HB⟩

theorem infoFace : (Tryz.prog.info? 40).map (fun i => (i.zero, i.size, i.bytes)) = some (some (.agg #[.string ⟨#[]⟩, .slice none 0 0]), 2, 40) := by kernel_rfl
theorem makeFaces (n : Nat) (hn : n ≤ 1048576) : ∃ M : Array Value, M.size = n * 2 ∧ ∀ W : World, (Instr.makeSlice 28 (.int .i64 (n : Int)) (.int .i64 (n : Int))).run Tryz.prog W = .ok (.slice (some ⟨W.heap.size, 0, none⟩) n n) (W.alloc (.cells M 40)) := by
  obtain ⟨i0, hi, hz0, hz1, hz2⟩ := info_parts infoFace
  refine ⟨madeCells (Value.cells (.agg #[.string ⟨#[]⟩, .slice none 0 0])) (((n : Nat) : Int).toNat * i0.size), by rw [size_madeCells, hz1]; simp, fun W => ?_⟩
  have h := run_make (P := Tryz.prog) W 28 40 i0 _ Tryz.underlying28 hi hz0 .i64 .i64 (n : Int) (n : Int) (by omega) (by omega) (by rw [hz2]; omega) (by omega)
  simpa using h
/-- The contract of the element's copying. -/
def ToFace (lo : Nat)  : Prop := ∀ (v : Value) (e : TY) (w : World), (IsFace w lo w.heap.size) v e → e.wt ≤ 1048576 →
  Calls Tryz.prog 53 #[v] w fun r w' => ∃ c0 c1 : Value, r = .returned (.agg #[c0, c1]) ∧ (IsFace w' w.heap.size w'.heap.size) (.agg #[c0, c1]) e ∧ Below w.heap.size w w'
/-- The first k elements lie copied in the block B. -/
def CopiedFace (w : World) (B : Nat)  (k : Nat) (kids : List TY) : Prop := ∀ j (hj : j < kids.length), j < k → ∃ c0 c1 : Value,
  w.cell? ⟨B, j * 2, none⟩ = some c0 ∧ w.cell? ⟨B, j * 2 + 1, none⟩ = some c1 ∧ (IsFace w (B + 1) w.heap.size) (.agg #[c0, c1]) kids[j]
theorem CopiedFace.next {w w2 : World} {B : Nat}  {k : Nat} {kids : List TY} {x0 x1 : Value} (hp : k < kids.length) (hD : CopiedFace w B  k kids) (hz : B < w.heap.size) (hb2 : Below w.heap.size w w2)
    (hc : ∀ j, j < kids.length * 2 → ∃ v, w2.cell? ⟨B, j, none⟩ = some v) (hE : (IsFace w2 w.heap.size w2.heap.size) (.agg #[x0, x1]) (kids[k]'hp)) : CopiedFace (put2 w2 B (k * 2) x0 x1) B  (k + 1) kids := by
  intro j hj hjk
  have hs2 : Same (B + 1) w2.heap.size w2 (put2 w2 B (k * 2) x0 x1) := fun b h1 h2 => put2_heap _ _ _ _ _ b (by omega)
  have hsz := put2_size w2 B (k * 2) x0 x1
  by_cases e : j = k
  · subst e
    obtain ⟨a0, a1⟩ := put2_at w2 B (j * 2) x0 x1 (fun i h1 h2 => hc i (by omega))
    exact ⟨x0, x1, a0, a1, IsFace.same  (fun b h1 h2 => hs2 b (by omega) h2) (by omega) (by omega) _ _ hE⟩
  · obtain ⟨c0, c1, d0, d1, hr⟩ := hD j hj (by omega)
    have hcc : ∀ i, i < k * 2 → (put2 w2 B (k * 2) x0 x1).cell? ⟨B, i, none⟩ = w.cell? ⟨B, i, none⟩ := fun i hi =>
      (put2_other w2 B (k * 2) x0 x1 i (by omega)).trans (hb2.cell (p := ⟨B, i, none⟩) hz)
    refine ⟨c0, c1, (hcc _ (by omega)).trans d0, (hcc _ (by omega)).trans d1, IsFace.same  (fun b h1 h2 => ?_) (Nat.le_refl _) (by have := hb2.size; omega) _ _ hr⟩
    exact (hs2 b h1 (by have := hb2.size; omega)).trans (hb2.block b h2)

set_option maxHeartbeats 1000000 in
theorem toTreeFaceS_of (lo : Nat)  (H : ToFace lo ) (a : Option Addr) (cap : Nat) (kids : List TY) (w : World) (hk : IsFaces (IsFace w lo w.heap.size) w lo w.heap.size a kids) (ht : kids.length + wtFaces kids ≤ 1048576) :
    Calls Tryz.prog 19 #[.slice a kids.length cap] w fun r w' => ∃ (a' : Option Addr) (cap' : Nat), r = .returned (.slice a' kids.length cap') ∧ IsFaces (IsFace w' w.heap.size w'.heap.size) w' w.heap.size w'.heap.size a' kids ∧ Below w.heap.size w w' := by
  obtain ⟨M, hM, hmk⟩ := makeFaces kids.length (by omega)
  have HK := hide hk
  have HH := hide H
  have HT := hide ht
  have HM := hide hM
  have hl : kids.length ≤ 1048576 := by omega
  clear hk H ht hM
  go_enter Tryz.func19, Tryz.ntmps19
  go_wp2
  clear hmk
  go_loopw [4] (fun i wr => ∃ k : Nat, k ≤ kids.length ∧ i = .int .i64 k ∧ Hid (Below w.heap.size w wr) ∧ Hid (w.heap.size < wr.heap.size) ∧ Hid (CopiedFace wr w.heap.size  k kids) ∧ Hid (∀ j, j < kids.length * 2 → ∃ v, wr.cell? ⟨w.heap.size, j, none⟩ = some v) ∧ Hid (∀ j, wr.frozen? ⟨w.heap.size, j, none⟩ = false)) (fun i _ => kids.length - (intOf i).toNat)
  case atStart =>
    refine ⟨0, Nat.zero_le _, rfl, hide ((Below.refl _ w).alloc (Nat.le_refl _) _), hide (by simp), hide (fun j _ hj => absurd hj (Nat.not_lt_zero _)), hide (fun j hj => ?_), hide (fun j => by simp)⟩
    rw [World.cell?_alloc_new]
    have : j < M.size := by rw [unhide HM]; exact hj
    exact ⟨_, Array.getElem?_eq_getElem this⟩
  case round =>
    obtain ⟨k, hk, rfl, HB, HZ, HD, HC, HF⟩ := hrel
    by_cases hp : k < kids.length
    · rcases (unhide HK).kept (unhide HB) (unhide HB).size with hq | ⟨b, off, rfl, hbl, hbn, hcs⟩
      · rw [hq] at hp; simp at hp
      obtain ⟨c0, c1, d0, d1, hr⟩ := hcs k hp
      have hs1 := wtFace_step kids k hp
      have hs3 := wtFace_le kids (k + 1)
      obtain ⟨e, he⟩ : ∃ e, kids[k] = e := ⟨_, rfl⟩
      rw [he] at hr hs1
      have hew : e.wt ≤ 1048576 := by have := unhide HT; omega
      have HR := hide hr
      have HE := hide he
      clear hcs hr hs1 hs3 he
      go_wp2_with fail
      refine (unhide HH _ e wr (unhide HR) hew).mono ?_
      rintro r w2 ⟨x0, x1, rfl, hE2, hb2⟩
      obtain ⟨xs, xa, xl, xc, rfl, rfl⟩ := IsFace.form  hE2
      have hz := unhide HZ
      have hcc : ∀ j, j < kids.length * 2 → ∃ v, w2.cell? ⟨w.heap.size, j, none⟩ = some v := fun j hj => by
        obtain ⟨v, hv⟩ := unhide HC j hj
        exact ⟨v, (hb2.cell (p := ⟨w.heap.size, j, none⟩) hz).trans hv⟩
      have hff : ∀ j, w2.frozen? ⟨w.heap.size, j, none⟩ = false := fun j => (hb2.frozen (p := ⟨w.heap.size, j, none⟩) hz).trans (unhide HF j)
      obtain ⟨y0, q0⟩ := hcc (k * 2) (by omega)
      have f0 := hff (k * 2)
      obtain ⟨y1, q1⟩ := hcc (k * 2 + 1) (by omega)
      have f1 := hff (k * 2 + 1)
      have HC2 := hide hcc
      have HF2 := hide hff
      have HE2 := hide hE2
      have HB2 := hide hb2
      clear hcc hff hE2 hb2 hz d0 d1
      have HN : Hid (CopiedFace (put2 w2 w.heap.size (k * 2) (.string xs) (.slice xa xl xc)) w.heap.size  (k + 1) kids) := hide (CopiedFace.next  hp (unhide HD) (unhide HZ) (unhide HB2) (unhide HC2) (by rw [unhide HE]; exact unhide HE2))
      have HB3 := hide (((unhide HB).trans ((unhide HB2).mono (unhide HB).size)).trans (put2_below w2 w.heap.size (k * 2) (.string xs) (.slice xa xl xc) (Nat.le_refl _)))
      have HZ3 : Hid (w.heap.size < (put2 w2 w.heap.size (k * 2) (.string xs) (.slice xa xl xc)).heap.size) := hide (by rw [put2_size]; have := (unhide HB2).size; have := unhide HZ; omega)
      have HF3 : Hid (∀ j, (put2 w2 w.heap.size (k * 2) (.string xs) (.slice xa xl xc)).frozen? ⟨w.heap.size, j, none⟩ = false) := hide (fun j => by rw [put2_frozen]; exact unhide HF2 j)
      have HC3 : Hid (∀ j, j < kids.length * 2 → ∃ v, (put2 w2 w.heap.size (k * 2) (.string xs) (.slice xa xl xc)).cell? ⟨w.heap.size, j, none⟩ = some v) := hide (fun j hj => by
        by_cases ho : j < k * 2 ∨ k * 2 + 2 ≤ j
        · rw [put2_other _ _ _ _ _ _ ho]; exact unhide HC2 j hj
        · obtain ⟨a0, a1⟩ := put2_at w2 w.heap.size (k * 2) (.string xs) (.slice xa xl xc) (fun i h1 h2 => unhide HC2 i (by omega))
          have hj5 : j = k * 2 ∨ j = k * 2 + 1 := by omega
          rcases hj5 with rfl | rfl
          · exact ⟨_, a0⟩
          · exact ⟨_, a1⟩)
      clear HD HC HF HB HZ HE2 HR
      go_wp2
      go_roundw
      case rel => exact ⟨k + 1, by omega, by go_num, HB3, HZ3, HN, HC3, HF3⟩
      case measure => simp [intOf] <;> omega
    · go_wp2
      go_ret
      refine ⟨_, _, rfl, .inr ⟨w.heap.size, 0, rfl, Nat.le_refl _, unhide HZ, fun j hj => ?_⟩, unhide HB⟩
      obtain ⟨c0, c1, d0, d1, hr⟩ := unhide HD j hj (by omega)
      refine ⟨c0, c1, ?_, ?_, IsFace.same  (fun b h1 h2 => rfl) (by omega) (Nat.le_refl _) _ _ hr⟩
      · rw [Nat.zero_add]; exact d0
      · rw [Nat.zero_add]; exact d1
end Go.Proofs.YtgmohnbjfemebaaGreatDoor

namespace Go.Proofs.YtgmohnbjfemebaaGreatDoor
open Go.RowKit Go.PlainAid

set_option maxHeartbeats 1000000 in
theorem szTypeFace_any (lo : Nat) : SzFace lo := by
  intro v f w left hF h0 h1
  obtain ⟨md, sigs⟩ := f
  obtain ⟨aa, ca, rfl, ⟨hs1, hs2⟩, ha⟩ := hF
  dsimp only at hs1 hs2 ha ⊢
  show Calls Tryz.prog 48 #[.agg #[.string md, .slice aa sigs.length ca], .int .i64 left] w fun r w' => r = .returned (.int .i64 (leftI left (md.size + (sigs.length + wtSigs sigs)))) ∧ Below w.heap.size w w'
  have HA := hide (fun (w' : World) (hb : Below w.heap.size w w') (l : Int) (k0 : 0 ≤ l) (k1 : l ≤ 1048576) => szTreeSigS_of lo (szFaceSig_any lo) aa ca sigs w' l (ha.kept hb hb.size) hs2 k0 k1)
  clear ha hs2
  unfold maxLen at hs1
  obtain ⟨A, hA⟩ : ∃ A, sigs.length + wtSigs sigs = A := ⟨_, rfl⟩
  rw [hA] at HA ⊢
  clear hA
  by_cases hb : left < (md.size : Int)
  · have HF := hide (left_no (left := left) (n := md.size + A) (by omega))
    go_enter Tryz.func48, Tryz.ntmps48
    go_wp2
    go_ret
    exact ⟨ret_int (unhide HF).symm, (Below.refl _ w).alloc (Nat.le_refl _) _⟩
  obtain ⟨L, hL⟩ := Int.eq_ofNat_of_zero_le (show 0 ≤ left - md.size by omega)
  have hL2 : L ≤ 1048576 := by omega
  have HL := hide hL
  have HC := hide (unhide HA _ ((Below.refl _ w).alloc (Nat.le_refl _) (.cells #[.string md, .slice aa sigs.length ca] 115)) (L : Int) (by omega) (by omega))
  clear HA
  have hL3 : left - (md.size : Int) = (L : Int) := hL
  clear hL
  go_enter Tryz.func48, Tryz.ntmps48
  go_wp2_with fail
  refine (unhide HC).mono ?_
  rintro r w2 ⟨rfl, hb2⟩
  have HB2 := hide (((Below.refl w.heap.size w).alloc (Nat.le_refl _) _).trans (hb2.mono (by simp)))
  clear hb2 HC hL3
  by_cases hw : A ≤ L
  · have el : leftI (L : Int) A = ((L - A : Nat) : Int) := by rw [left_yes (by omega)]; omega
    have HF : Hid (leftI left (md.size + A) = ((L - A : Nat) : Int)) := hide (by have := unhide HL; rw [left_yes (by omega)]; omega)
    rw [el]
    obtain ⟨K, hK⟩ : ∃ K, L - A = K := ⟨_, rfl⟩
    rw [hK] at HF ⊢
    clear el hw hK
    go_wp2
    go_ret
    exact ⟨ret_int (unhide HF).symm, unhide HB2⟩
  · have el : leftI (L : Int) A = -1 := left_no (by omega)
    have HF : Hid (leftI left (md.size + A) = -1) := hide (left_no (by have := unhide HL; omega))
    rw [el]
    clear el hw
    go_wp2
    go_ret
    exact ⟨ret_int (unhide HF).symm, unhide HB2⟩

set_option maxHeartbeats 1000000 in
theorem eqTypeFace_any (lo lo' : Nat) : EqFace lo lo' := by
  intro v v' f w hF hF'
  obtain ⟨md, sigs⟩ := f
  obtain ⟨aa, ca, rfl, ⟨hs1, hs2⟩, ha⟩ := hF
  obtain ⟨aa', ca', rfl, _, ha'⟩ := hF'
  dsimp only at hs1 hs2 ha ha' ⊢
  have HA := hide (fun (w' : World) (hb : Below w.heap.size w w') => eqTreeSigS_of lo lo' (eqFaceSig_any lo lo') aa aa' ca ca' sigs w' hs2 (ha.kept hb hb.size) (ha'.kept hb hb.size))
  clear ha ha' hs1 hs2
  have q1 : (md.toList != md.toList) = false := by simp
  show Calls Tryz.prog 58 #[.agg #[.string md, .slice aa sigs.length ca], .agg #[.string md, .slice aa' sigs.length ca']] w fun r w' => r = .returned (.bool true) ∧ Below w.heap.size w w'
  go_enter Tryz.func58, Tryz.ntmps58
  go_wp2_with fail
  refine (unhide HA _ (((Below.refl _ w).alloc (Nat.le_refl _) _).alloc (by simp) _)).mono ?_
  rintro r w2 ⟨rfl, hb2⟩
  have HB2 := hide ((((Below.refl w.heap.size w).alloc (Nat.le_refl _) _).alloc (by simp) _).trans (hb2.mono (by simp; omega)))
  clear hb2
  go_wp2
  go_ret
  exact ⟨rfl, unhide HB2⟩

set_option maxHeartbeats 2000000 in
theorem toTypeFace_any (lo : Nat) : ToFace lo := by
  intro v f w hF ht
  obtain ⟨md, sigs⟩ := f
  obtain ⟨aa, ca, rfl, hz, ha⟩ := hF
  dsimp only at hz ha ⊢
  have ht' : md.size + (sigs.length + wtSigs sigs) ≤ 1048576 := ht
  have HA := hide (fun (w' : World) (hb : Below w.heap.size w w') => toTreeSigS_of lo (toFaceSig_any lo) aa ca sigs w' (ha.kept hb hb.size) (by omega))
  have HZ := hide hz
  clear ha ht ht' hz
  go_enter Tryz.func53, Tryz.ntmps53
  go_wp2_with fail
  refine (unhide HA _ ((((Below.refl _ w).alloc (Nat.le_refl _) _).alloc (by simp) _).alloc (by simp; omega) _)).mono ?_
  rintro r w2 ⟨a', cap', rfl, hk2, hb2⟩
  have hB2 : Below w.heap.size w w2 := (((((Below.refl _ w).alloc (Nat.le_refl _) _).alloc (by simp) _).alloc (by simp; omega) _)).trans (hb2.mono (by simp; omega))
  rw [alloc_size, alloc_size, alloc_size] at hk2
  have n2 : Blk w2 (w.heap.size + 1) [Value.string ⟨#[]⟩, Value.slice none 0 0] := by
    have := ((Blk.new (w.alloc (.cells #[Value.string md, Value.slice aa sigs.length ca] 115)) [Value.string ⟨#[]⟩, Value.slice none 0 0] 40).old (.cells #[.string md, .slice none 0 0] 40) (by simp only [alloc_size]; omega)).below hb2 (by simp only [alloc_size]; omega)
    rw [alloc_size] at this
    exact this
  have n3 : Blk w2 (w.heap.size + 1 + 1) [.string md, .slice none 0 0] := by
    have := (Blk.new ((w.alloc (.cells #[Value.string md, Value.slice aa sigs.length ca] 115)).alloc (.cells #[Value.string ⟨#[]⟩, Value.slice none 0 0] 40)) [.string md, .slice none 0 0] 40).below hb2 (by simp only [alloc_size]; omega)
    rw [alloc_size, alloc_size] at this
    exact this
  have hS2 : w.heap.size + 3 ≤ w2.heap.size := by have := hb2.size; rw [alloc_size, alloc_size, alloc_size] at this; omega
  have o0 : w2.cell? ⟨w.heap.size + 1 + 1, 0, none⟩ = some (.string md) := n3.1 0
  have o1 : w2.cell? ⟨w.heap.size + 1 + 1, 1, none⟩ = some (.slice none 0 0) := n3.1 1
  have g1 : w2.frozen? ⟨w.heap.size + 1 + 1, 1, none⟩ = false := n3.2 1
  have q0 : w2.cell? ⟨w.heap.size + 1, 0, none⟩ = some (Value.string ⟨#[]⟩) := n2.1 0
  have q1 : w2.cell? ⟨w.heap.size + 1, 1, none⟩ = some (Value.slice none 0 0) := n2.1 1
  have f0 : w2.frozen? ⟨w.heap.size + 1, 0, none⟩ = false := n2.2 0
  have f1 : w2.frozen? ⟨w.heap.size + 1, 1, none⟩ = false := n2.2 1
  have HN := hide ((((n2.other (w.heap.size + 1 + 1) 1 (.slice a' sigs.length cap') (by omega)).set 0 (.string md) (by simp)).set 1 (.slice a' sigs.length cap') (by simp)))
  have HFB := hide (((((Below.refl w.heap.size w2).setCell (p := ⟨w.heap.size + 1 + 1, 1, none⟩) (by simp; omega) (.slice a' sigs.length cap')).setCell (p := ⟨w.heap.size + 1, 0, none⟩) (by simp) (.string md)).setCell (p := ⟨w.heap.size + 1, 1, none⟩) (by simp) (.slice a' sigs.length cap')))
  have HB2 := hide hB2
  have HK2 := hide hk2
  have HS2 := hide hS2
  clear n2 n3 hb2 hB2 hk2 hS2
  go_wp2
  obtain ⟨F, hF⟩ : ∃ F, F = (((w2.setCell ⟨w.heap.size + 1 + 1, 1, none⟩ (.slice a' sigs.length cap')).setCell ⟨w.heap.size + 1, 0, none⟩ (.string md)).setCell ⟨w.heap.size + 1, 1, none⟩ (.slice a' sigs.length cap')) := ⟨_, rfl⟩
  have hFO : Same (w.heap.size + 3) w2.heap.size w2 F := fun b h1 h2 => by rw [hF, Below.heap_setCell _ _ _ _ (by simp; omega), Below.heap_setCell _ _ _ _ (by simp; omega), Below.heap_setCell _ _ _ _ (by simp; omega)]
  have hFS : F.heap.size = w2.heap.size := by rw [hF]; simp [World.setCell]
  rw [← hF] at HN HFB ⊢
  have e := (unhide HN).1
  have e0 : F.cell? ⟨w.heap.size + 1, 0, none⟩ = some (Value.string md) := e 0
  have e1 : F.cell? ⟨w.heap.size + 1, 1, none⟩ = some (Value.slice a' sigs.length cap') := e 1
  refine bodyPost_ret (v := .agg #[Value.string md, Value.slice a' sigs.length cap']) (by simp [results, Tryz.results53, go_sem, e0, e1]) rfl ?_
  refine ⟨_, _, rfl, ⟨a', cap', rfl, unhide HZ, ?_⟩, (unhide HB2).trans (unhide HFB)⟩
  exact (unhide HK2).mono (fun v e he => IsSig.same hFO (by omega) (by omega) v e he) hFO (by omega) (by omega)
end Go.Proofs.YtgmohnbjfemebaaGreatDoor

namespace Go.Proofs.YtgmohnbjfemebaaGreatDoor
open Go.RowKit Go.PlainAid

theorem own_of_row {w : World} {lo : Nat} {v : Value} {k : Nat} {zs : List Int} (h : w.ownsRow lo 3 1 v k (zs.map (Value.int .i64))) : OwnI w lo w.heap.size v zs := by
  obtain ⟨hl, h⟩ := h
  have hk : k = zs.length := by simpa using hl.symm
  subst hk
  rcases h with ⟨rfl, h0⟩ | ⟨g, cap, cur, rfl, hb, hg, hc, hm, hs, ht⟩
  · refine ⟨none, 0, by rw [h0], .inl (List.length_eq_zero_iff.1 h0)⟩
  · refine ⟨some ⟨g, 0, none⟩, cap, rfl, .inr ⟨g, rfl, hb, ?_, fun j hj => ?_, fun j => ?_⟩⟩
    · rcases Nat.lt_or_ge g w.heap.size with h | h
      · exact h
      · rw [Array.getElem?_eq_none h] at hg; cases hg
    · have : cur.toList[j]? = some (.int .i64 zs[j]) := by
        have e : (cur.toList.take (zs.length * 1))[j]? = some (.int .i64 zs[j]) := by rw [ht]; simp [hj]
        rwa [List.getElem?_take_of_lt (by omega)] at e
      rw [World.cell?]
      simp [hg, ← Array.getElem?_toList, this]
    · simp [World.frozen?, hg]

theorem app0 (b : Nat) (aa : Option Addr) (ca : Nat) (W : World) : (Builtin.append_ #[79, 79] 79 #[.slice (some ⟨b, 0, none⟩) 0 0, .slice aa 0 ca]).run Tryz.prog W = .ok (.slice (some ⟨b, 0, none⟩) 0 0) W := by
  obtain ⟨i0, hi, hz0, hz1, hz2⟩ := info_parts intinfo
  have hs : Src Tryz.prog i0.size 79 (.slice aa 0 ca) 0 [] W := by
    cases aa with
    | none => exact Src.ofNil W Tryz.underlying79 ca
    | some ad => exact Src.ofSlice W Tryz.underlying79 ad 0 ca [] (by simp) (fun j u hu => by simp at hu) (fun u hu => by cases hu)
  have := run_append_room_src (P := Tryz.prog) W 79 79 79 3 i0 Tryz.underlying79 hi b 0 0 0 (.slice aa 0 ca) 0 [] hs (by omega) (fun j hj => by simp at hj) (fun j hj => by simp at hj)
  simpa [World.setCells] using this
theorem appN (aa : Option Addr) (ca : Nat) (W : World) : (Builtin.append_ #[79, 79] 79 #[.slice none 0 0, .slice aa 0 ca]).run Tryz.prog W = .ok (.slice none 0 0) W := by
  obtain ⟨i0, hi, hz0, hz1, hz2⟩ := info_parts intinfo
  have hs : Src Tryz.prog i0.size 79 (.slice aa 0 ca) 0 [] W := by
    cases aa with
    | none => exact Src.ofNil W Tryz.underlying79 ca
    | some ad => exact Src.ofSlice W Tryz.underlying79 ad 0 ca [] (by simp) (fun j u hu => by simp at hu) (fun u hu => by cases hu)
  simp [Builtin.append_, run_underlying Tryz.underlying79, sizeOf, typeInfo, hi, hs.len, hs.cells]
theorem run_app_ints (W : World) (base : Option Addr) (hb : base = none ∨ ∃ B : Nat, base = some ⟨B, 0, none⟩) (aa : Option Addr) (ca : Nat) (zs : List Int) (lo n : Nat) (hI : IsInts W lo n aa zs) (hl : zs.length ≤ 1048576) :
    ∃ v' W', (Builtin.append_ #[79, 79] 79 #[.slice base 0 0, .slice aa zs.length ca]).run Tryz.prog W = .ok v' W' ∧ OwnI W' W.heap.size W'.heap.size v' zs ∧ Below W.heap.size W W' := by
  obtain ⟨i0, hi, hz0, hz1, hz2⟩ := info_parts intinfo
  rcases hI with rfl | ⟨b, off, rfl, hbl, hbn, hcs⟩
  · rcases hb with rfl | ⟨B, rfl⟩
    · exact ⟨_, _, appN aa ca W, ⟨none, 0, rfl, .inl rfl⟩, Below.refl _ _⟩
    · exact ⟨_, _, app0 B aa ca W, ⟨_, 0, rfl, .inl rfl⟩, Below.refl _ _⟩
  · by_cases h0 : zs = []
    · subst h0
      rcases hb with rfl | ⟨B, rfl⟩
      · exact ⟨_, _, appN _ ca W, ⟨none, 0, rfl, .inl rfl⟩, Below.refl _ _⟩
      · exact ⟨_, _, app0 B _ ca W, ⟨_, 0, rfl, .inl rfl⟩, Below.refl _ _⟩
    have hpos : 0 < zs.length := List.length_pos_iff.2 h0
    have hs : Src Tryz.prog i0.size 79 (.slice (some ⟨b, off, none⟩) zs.length ca) zs.length (zs.map (Value.int .i64)) W :=
      Src.ofSlice W Tryz.underlying79 ⟨b, off, none⟩ zs.length ca (zs.map (Value.int .i64)) (by rw [hz1]; simp) (fun j u hu => by
        rw [Addr.add_lit]
        rw [List.getElem?_map] at hu
        rcases Nat.lt_or_ge j zs.length with hj | hj
        · rw [List.getElem?_eq_getElem hj] at hu
          cases hu
          exact hcs j hj
        · rw [List.getElem?_eq_none hj] at hu; cases hu) (fun u hu => by
        obtain ⟨z, _, rfl⟩ := List.mem_map.1 hu
        rfl)
    have hold : (Builtin.firstCells i0.size 0 (.slice base 0 0)).run Tryz.prog W.drew = .ok ([] : List Value).toArray W.drew := by
      rcases hb with rfl | ⟨B, rfl⟩
      · exact run_firstCells_none _ _ _ _ _
      · exact run_firstCells_some _ _ _ _ _ _ [] (by simp) (fun j v hv => by simp at hv)
    have hr := run_append_grow_src (P := Tryz.prog) W 79 79 79 3 i0 (.int .i64 0) Tryz.underlying79 hi hz0 base 0 0 [] hold (.slice (some ⟨b, off, none⟩) zs.length ca) zs.length (zs.map (Value.int .i64)) hs (by omega) (by omega)
      (growslice_fits (by omega) (by rw [hz2]; omega))
    refine ⟨_, _, hr, ⟨some ⟨W.heap.size, 0, none⟩, _, by rw [Nat.zero_add], .inr ⟨W.heap.size, rfl, Nat.le_refl _, by simp, fun j hj => ?_, fun j => ?_⟩⟩, (Below.refl _ W).drew.alloc (Nat.le_refl _) _⟩
    · have := alloc_cell W.drew (([] ++ zs.map (Value.int .i64)).toArray ++ Builtin.zeroCells (Value.int .i64 0).cells (grownCap W (0 + zs.length) 0 3 - (0 + zs.length))) 3 j
      refine this.trans ?_
      rw [Array.getElem?_append_left (by simpa using hj)]
      simp [hj]
    · exact new_frozen W.drew _ _ _
theorem wpList_app_ints {ops : Array Oper} {rest : List Oper} {o : Oper} {a : Act} {Q : Exit → Act → World → Prop} (w : World) (hgd : o.guard = none) (s x : Operand)
    (ho : o.op = .call { callee := .builtin .append, args := #[s, x], argTypes := #[79, 79] }) (hty : o.type = 79) (base : Option Addr) (hs : a.eval s = .slice base 0 0) (hb : base = none ∨ ∃ B : Nat, base = some ⟨B, 0, none⟩)
    (aa : Option Addr) (ca : Nat) (zs : List Int) (hx : a.eval x = .slice aa zs.length ca) (lo n : Nat) (hI : IsInts w lo n aa zs) (hl : zs.length ≤ 1048576)
    (h : ∀ v' w', OwnI w' w.heap.size w'.heap.size v' zs → Below w.heap.size w w' → wpList Tryz.prog ops Q rest (a.put o.dst v') w') : wpList Tryz.prog ops Q (o :: rest) a w :=
  wpList_plain hgd fun _ hK => by
    obtain ⟨v', w', hr, h2, h3⟩ := run_app_ints w base hb aa ca zs lo n hI hl
    unfold Oper.wp execOp
    simp only [ho, hty, resolve, invoke, builtin, Sem.run_bind, Sem.run_pure, Result.andThen_ok, List.map_toArray, List.map_cons, List.map_nil, hs, hx, hr]
    exact hK _ _ (h v' w' h2 h3)
/-- What a signature as an answer is: its numbers in a block of its own. -/
def OwnSig (w : World) (lo : Nat) (r : Ending) (s : TS) (w' : World) : Prop := ∃ v : Value, r = .returned (.agg #[.string s.name, v, .int .i64 s.type]) ∧ OwnI w' lo w'.heap.size v s.args ∧ Below w.heap.size w w'

set_option maxRecDepth 100000 in
set_option maxHeartbeats 1000000 in
theorem l4Sig_any (lo : Nat) (v : Value) (s : TS) (w : World) (hS : IsSig w lo w.heap.size v s) (hl : s.args.length ≤ 1048576) :
    Calls Tryz.prog 120 #[v] w fun r w' => OwnSig w w.heap.size r s w' := by
  obtain ⟨i0, hi, hz0, hz1, hz2⟩ := info_parts intinfo
  obtain ⟨nm, args, ty⟩ := s
  obtain ⟨aa, ca, rfl, _, ha⟩ := hS
  dsimp only at ha hl
  show Calls Tryz.prog 120 #[.agg #[.string nm, .slice aa args.length ca, .int .i64 ty]] w fun r w' => ∃ v : Value, r = .returned (.agg #[.string nm, v, .int .i64 ty]) ∧ OwnI w' w.heap.size w'.heap.size v args ∧ Below w.heap.size w w'
  have HA := hide (fun (W : World) (hb : Below w.heap.size w W) => ha.kept hb hb.size)
  clear ha
  go_enter Tryz.func120, Tryz.ntmps120
  go_wp2_with (at_builtin; refine wpList_app_ints _ rfl _ _ rfl rfl _ rfl (.inr ⟨_, rfl⟩) aa ca args rfl _ _ (unhide HA _ ((((Below.refl _ w).alloc (Nat.le_refl _) _).alloc (by simp) _).alloc (by simp; omega) _)) hl ?_; intro v2 w2 ho2 hb2; obtain ⟨a2, c2, rfl, hk2⟩ := ho2; have hB2 : Below w.heap.size w w2 := (((((Below.refl _ w).alloc (Nat.le_refl _) _).alloc (by simp) _).alloc (by simp; omega) _)).trans (hb2.mono (by simp; omega)); have n1 : Blk w2 w.heap.size [Value.string nm, Value.slice aa args.length ca, Value.int .i64 ty] := (((Blk.new w [Value.string nm, Value.slice aa args.length ca, Value.int .i64 ty] 81).old _ (by simp only [alloc_size]; omega)).old _ (by simp only [alloc_size]; omega)).below hb2 (by simp only [alloc_size]; omega); have n2 : Blk w2 (w.heap.size + 1) [Value.string ⟨#[]⟩, Value.slice none 0 0, Value.int .i64 0] := (by have := ((Blk.new (w.alloc (.cells [Value.string nm, Value.slice aa args.length ca, Value.int .i64 ty].toArray 81)) [Value.string ⟨#[]⟩, Value.slice none 0 0, Value.int .i64 0] 81).old (.cells #[] 3) (by simp only [alloc_size]; omega)).below hb2 (by simp only [alloc_size]; omega); rw [alloc_size] at this; exact this); have hS2 : w.heap.size + 3 ≤ w2.heap.size := (by have := hb2.size; rw [alloc_size, alloc_size, alloc_size] at this; omega); have p0 := n1.cellAt (i := 0) rfl; have p1 := n1.cellAt (i := 1) rfl; have p2 := n1.cellAt (i := 2) rfl; have q0 := n2.cellAt (i := 0) rfl; have q1 := n2.cellAt (i := 1) rfl; have q2 := n2.cellAt (i := 2) rfl; have e1 := n1.2 1; have f0 := n2.2 0; have f1 := n2.2 1; have f2 := n2.2 2; have N2 := hide n2; have HB2 := hide hB2; have HS2 := hide hS2; have HK2 := hide hk2; clear n1 n2 hB2 hS2 hk2 hb2)
  obtain ⟨F, hF⟩ : ∃ F, F = ((((w2.setCell ⟨w.heap.size, 1, none⟩ (.slice a2 args.length c2)).setCell ⟨w.heap.size + 1, 0, none⟩ (.string nm)).setCell ⟨w.heap.size + 1, 1, none⟩ (.slice a2 args.length c2)).setCell ⟨w.heap.size + 1, 2, none⟩ (.int .i64 ty)) := ⟨_, rfl⟩
  have hn := ((((unhide N2).other w.heap.size 1 (.slice a2 args.length c2) (by omega)).set 0 (.string nm) (by simp)).set 1 (.slice a2 args.length c2) (by simp)).set 2 (.int .i64 ty) (by simp)
  have hFB := ((((Below.refl w.heap.size w2).setCell (p := ⟨w.heap.size, 1, none⟩) (by simp) (.slice a2 args.length c2)).setCell (p := ⟨w.heap.size + 1, 0, none⟩) (by simp) (.string nm)).setCell (p := ⟨w.heap.size + 1, 1, none⟩) (by simp) (.slice a2 args.length c2)).setCell (p := ⟨w.heap.size + 1, 2, none⟩) (by simp) (.int .i64 ty)
  have hFO : ∀ b, w.heap.size + 3 ≤ b → F.heap[b]? = w2.heap[b]? := fun b hb => by rw [hF, Below.heap_setCell _ _ _ _ (by simp; omega), Below.heap_setCell _ _ _ _ (by simp; omega), Below.heap_setCell _ _ _ _ (by simp; omega), Below.heap_setCell _ _ _ _ (by simp; omega)]
  have hFS : F.heap.size = w2.heap.size := by rw [hF]; simp [World.setCell]
  rw [← hF] at hn hFB ⊢
  have g0 := hn.cellAt (i := 0) rfl
  have g1 := hn.cellAt (i := 1) rfl
  have g2 := hn.cellAt (i := 2) rfl
  refine bodyPost_ret (v := .agg #[Value.string nm, Value.slice a2 args.length c2, Value.int .i64 ty]) (by simp [results, Tryz.results120, go_sem, g0, g1, g2]) rfl ?_
  refine ⟨_, rfl, ⟨a2, c2, rfl, ?_⟩, (unhide HB2).trans hFB⟩
  rcases unhide HK2 with h | ⟨b, h1, h2, h3, h4, h5⟩
  · exact .inl h
  · rw [alloc_size, alloc_size, alloc_size] at h2
    have hblk := hFO b (by omega)
    exact .inr ⟨b, h1, by omega, by omega, fun j hj => (World.cell?_of_block (w := w2) (a := ⟨b, j, none⟩) hblk).trans (h4 j hj), fun j => (World.frozen?_of_block (w := w2) (a := ⟨b, j, none⟩) hblk).trans (h5 j)⟩
end Go.Proofs.YtgmohnbjfemebaaGreatDoor

namespace Go.Proofs
open Go.Shelf
def Tryz.laysM316_ren : Go.Shelf.Ren := ⟨fun | 316 => 145 | n => n, fun | 9 => 9 | 3 => 3 | 4 => 4 | 37 => 22 | 0 => 0 | 127 => 253 | 5 => 5 | n => n, fun | n => n⟩
theorem Tryz.laysM316 : Go.Proofs.LaysM.n316 Tryz.prog Tryz.laysM316_ren := {
  mixed := by kernel_rfl
  f316 := Tryz.func145.trans (congrArg some (by kernel_rfl))
  t0 := Tryz.underlying0
  a0 := Tryz.isAgg0
  z0 := Tryz.sizeOf0
  v0 := Tryz.zeroValue0
  t3 := Tryz.underlying3
  a3 := Tryz.isAgg3
  z3 := Tryz.sizeOf3
  v3 := Tryz.zeroValue3
  t4 := Tryz.underlying4
  a4 := Tryz.isAgg4
  z4 := Tryz.sizeOf4
  v4 := Tryz.zeroValue4
  t9 := Tryz.underlying9
  a9 := Tryz.isAgg9
  z9 := Tryz.sizeOf9
  v9 := Tryz.zeroValue9
  t37 := Tryz.underlying22
  a37 := Tryz.isAgg22
  z37 := Tryz.sizeOf22
  v37 := Tryz.zeroValue22
  t127 := Tryz.underlying253
  a127 := Tryz.isAgg253
  z127 := Tryz.sizeOf253
  v127 := Tryz.zeroValue253
  t5 := Tryz.underlying5
  a5 := Tryz.isAgg5
  z5 := Tryz.sizeOf5
  v5 := Tryz.zeroValue5
  i0 := by kernel_rfl
  i3 := by kernel_rfl
  i4 := by kernel_rfl
  i5 := by kernel_rfl
  i9 := by kernel_rfl
  i37 := by kernel_rfl
  i127 := by kernel_rfl }
open Go.RowKit in
theorem Tryz.stringslite_Clone (s : ByteArray) (w : World) (hlim : s.size ≤ 281474976710656) :
    Calls Tryz.prog 145 #[.string s] w fun e w' => e = .returned (.string s) ∧ Below w.heap.size w w' := Any.stringslite_Clone Tryz.laysM316 s w hlim
namespace YtgmohnbjfemebaaGreatDoor
open Go.RowKit Go.PlainAid
theorem Clone_any (s : ByteArray) (w : World) (hs : s.size ≤ 281474976710656) :
    Calls Tryz.prog 133 #[.string s] w fun e w' => e = .returned (.string s) ∧ Below w.heap.size w w' := by
  go_enter Tryz.func133, Tryz.ntmps133
  go_wp2_with fail
  refine (Tryz.stringslite_Clone _ _ hs).mono ?_
  rintro e w1 ⟨rfl, hb⟩
  go_wp2
  go_ret
  exact ⟨rfl, hb⟩
end YtgmohnbjfemebaaGreatDoor
end Go.Proofs

namespace Go.Proofs.YtgmohnbjfemebaaGreatDoor
open Go.RowKit Go.PlainAid

theorem own_sliceN {W : World} {m e size k : Nat} {v : Value} {xs : List Value} (h : W.ownsRow m e size v k xs) : ∃ ao cap, v = .slice ao k cap := by
  rcases h.2 with ⟨h1, h2⟩ | ⟨g, cap, cur, h1, _⟩
  · exact ⟨none, 0, by rw [h1, h2]⟩
  · exact ⟨_, cap, h1⟩
theorem own_keptN {W W' : World} {base e s n : Nat} {v : Value} {xs : List Value} (h : W.ownsRow base e s v n xs) (hb : Below W.heap.size W W') : W'.ownsRow base e s v n xs := by
  refine ⟨h.1, ?_⟩
  rcases h.2 with h1 | ⟨g, cap, cur, h1, h2, h3, h4⟩
  · exact .inl h1
  · refine .inr ⟨g, cap, cur, h1, h2, ?_, h4⟩
    rw [hb.block g (by
      rcases Nat.lt_or_ge g W.heap.size with h | h
      · exact h
      · rw [Array.getElem?_eq_none h] at h3; cases h3)]
    exact h3
theorem one_newN (W : World) (v : Value) (t : TypeId) : ∀ j u, [v][j]? = some u → (W.alloc (.cells #[v] t)).cell? ((⟨W.heap.size, 0, none⟩ : Addr).add j) = some u := fun j u hu => by
  rw [Addr.add_lit, Nat.zero_add, alloc_cell]
  simpa using hu
theorem own_setN {W : World} {base e s n B j : Nat} {v u : Value} {xs : List Value} (h : W.ownsRow base e s v n xs) (hB : B < base) : (W.setCell ⟨B, j, none⟩ u).ownsRow base e s v n xs := by
  refine ⟨h.1, ?_⟩
  rcases h.2 with h1 | ⟨g, cap, cur, h1, h2, h3, h4⟩
  · exact .inl h1
  · exact .inr ⟨g, cap, cur, h1, h2, by rw [Below.heap_setCell _ _ _ _ (by simp; omega)]; exact h3, h4⟩
/-- The signature of a function. -/
def sigOf (f : TF) : TS := ⟨f.name, f.args.map TA.type, f.type⟩

set_option maxRecDepth 100000 in
set_option maxHeartbeats 4000000 in
theorem faceSigOf_any (lo h : Nat) (v : Value) (f : TF) (w : World) (hF : IsFun w lo w.heap.size h v f) (hl : f.args.length ≤ 1048576) (hs : f.name.size ≤ 1048576) :
    Calls Tryz.prog 132 #[v] w fun r w' => OwnSig w w.heap.size r (sigOf f) w' := by
  obtain ⟨i0, hi, hz0, hz1, hz2⟩ := info_parts intinfo
  obtain ⟨nm, pb, args, ty, body⟩ := f
  obtain ⟨aa, ca, b0, b1, b2, b3, b4, rfl, _, ha, _⟩ := hF
  dsimp only at ha hl hs
  show Calls Tryz.prog 132 #[.agg #[.string nm, .bool pb, .slice aa args.length ca, .int .i64 ty, b0, b1, b2, b3, b4]] w fun r w' => ∃ v : Value, r = .returned (.agg #[.string nm, v, .int .i64 ty]) ∧ OwnI w' w.heap.size w'.heap.size v (args.map TA.type) ∧ Below w.heap.size w w'
  have HA := hide (fun (W : World) (hb : Below w.heap.size w W) => ha.kept hb hb.size)
  have HC := hide (fun (W : World) => Clone_any nm W (by omega))
  clear ha hs
  have N0 : Hid (Blk ((w.alloc (.cells [Value.string nm, Value.bool pb, Value.slice aa args.length ca, Value.int .i64 ty, b0, b1, b2, b3, b4].toArray 108)).alloc (.cells [Value.string ⟨#[]⟩, Value.slice none 0 0, Value.int .i64 0].toArray 81)) w.heap.size [Value.string nm, Value.bool pb, Value.slice aa args.length ca, Value.int .i64 ty, b0, b1, b2, b3, b4]) := hide ((Blk.new w [Value.string nm, Value.bool pb, Value.slice aa args.length ca, Value.int .i64 ty, b0, b1, b2, b3, b4] 108).old _ (by simp))
  have N1 : Hid (Blk ((w.alloc (.cells [Value.string nm, Value.bool pb, Value.slice aa args.length ca, Value.int .i64 ty, b0, b1, b2, b3, b4].toArray 108)).alloc (.cells [Value.string ⟨#[]⟩, Value.slice none 0 0, Value.int .i64 0].toArray 81)) (w.heap.size + 1) [Value.string ⟨#[]⟩, Value.slice none 0 0, Value.int .i64 0]) := hide (by
    have := Blk.new (w.alloc (.cells [Value.string nm, Value.bool pb, Value.slice aa args.length ca, Value.int .i64 ty, b0, b1, b2, b3, b4].toArray 108)) [Value.string ⟨#[]⟩, Value.slice none 0 0, Value.int .i64 0] 81
    rw [alloc_size] at this
    exact this)
  have HW : Hid (Below w.heap.size w ((w.alloc (.cells [Value.string nm, Value.bool pb, Value.slice aa args.length ca, Value.int .i64 ty, b0, b1, b2, b3, b4].toArray 108)).alloc (.cells [Value.string ⟨#[]⟩, Value.slice none 0 0, Value.int .i64 0].toArray 81))) := hide (((Below.refl _ w).alloc (Nat.le_refl _) _).alloc (by simp) _)
  go_enter Tryz.func132, Tryz.ntmps132
  go_upto_region 1 with fail
  obtain ⟨W, hW⟩ : ∃ W, W = ((w.alloc (.cells [Value.string nm, Value.bool pb, Value.slice aa args.length ca, Value.int .i64 ty, b0, b1, b2, b3, b4].toArray 108)).alloc (.cells [Value.string ⟨#[]⟩, Value.slice none 0 0, Value.int .i64 0].toArray 81)) := ⟨_, rfl⟩
  have hWs : W.heap.size = w.heap.size + 1 + 1 := by rw [hW]; simp
  rw [← hW] at N0 N1 HW ⊢
  clear hW
  have p0 := (unhide N0).cellAt (i := 0) rfl
  have p3 := (unhide N0).cellAt (i := 3) rfl
  have HD0 : Hid (∀ W' : World, Below W.heap.size W W' → W'.cell? ⟨w.heap.size, 0, none⟩ = some (.string nm) ∧ W'.cell? ⟨w.heap.size, 3, none⟩ = some (.int .i64 ty)) := hide (fun W' hb => ⟨((unhide N0).below hb (by omega)).cellAt (i := 0) rfl, ((unhide N0).below hb (by omega)).cellAt (i := 3) rfl⟩)
  have p0' : ∀ o : Obj, (W.drew.alloc o).cell? ⟨w.heap.size, 0, none⟩ = some (.string nm) := fun o => (unhide HD0 _ ((Below.refl _ W).drew.alloc (Nat.le_refl _) o)).1
  have p3' : ∀ o : Obj, (W.drew.alloc o).cell? ⟨w.heap.size, 3, none⟩ = some (.int .i64 ty) := fun o => (unhide HD0 _ ((Below.refl _ W).drew.alloc (Nat.le_refl _) o)).2
  have hlt : w.heap.size < W.heap.size := by omega
  have hne : w.heap.size ≠ W.heap.size := by omega
  have HWS := hide hWs
  clear hWs
  go_cut [3] from 6 to 11 (fun s wc => ∃ B : Nat, s = .pointer (some ⟨B, 0, none⟩) ∧ w.heap.size + 2 ≤ B ∧ B < wc.heap.size ∧ Hid (Blk wc B [.string nm, .slice none 0 0, .int .i64 ty]) ∧ Hid (Below W.heap.size W wc))
  case first =>
    go_region_with (go_at_call 133; refine (unhide HC _).mono ?_; rintro r w2 ⟨rfl, hb2⟩; first | (have kW : Below W.heap.size W w2 := (Below.refl _ W).drew.trans hb2; have z3 := (unhide HD0 w2 kW).2; have z3' : ∀ o : Obj, (w2.alloc o).cell? ⟨w.heap.size, 3, none⟩ = some (.int .i64 ty) := fun o => (unhide HD0 _ (kW.alloc kW.size o)).2; have hlt2 : w.heap.size < w2.heap.size := (by have := kW.size; omega); have hne2 : w.heap.size ≠ w2.heap.size := (by omega)) | (have n3 : Blk w2 W.heap.size [Value.string ⟨#[]⟩, Value.slice none 0 0, Value.int .i64 0] := (Blk.new W.drew [Value.string ⟨#[]⟩, Value.slice none 0 0, Value.int .i64 0] 81).below hb2 (by simp); have y0 := n3.cellAt (i := 0) rfl; have y1 := n3.cellAt (i := 1) rfl; have y2 := n3.cellAt (i := 2) rfl; have x0 := n3.2 0; have x1 := n3.2 1; have x2 := n3.2 2; have kW : Below W.heap.size W w2 := (((Below.refl _ W).drew.alloc (Nat.le_refl _) _)).trans (hb2.mono (by simp)); have z3 := (unhide HD0 w2 kW).2; have z3' : ∀ o : Obj, (w2.alloc o).cell? ⟨w.heap.size, 3, none⟩ = some (.int .i64 ty) := fun o => (unhide HD0 _ (kW.alloc kW.size o)).2; have hlt2 : w.heap.size < w2.heap.size := (by have := kW.size; omega); have hne2 : w.heap.size ≠ w2.heap.size := (by omega)))
    all_goals (
      go_wp2_with fail
      go_meet)
    all_goals first
      | exact ⟨w2.heap.size, rfl, by have := unhide HWS; have := kW.size; omega, by simp, hide (Blk.new w2 [.string nm, .slice none 0 0, .int .i64 ty] 81), hide (kW.alloc kW.size _)⟩
      | exact ⟨W.heap.size, rfl, by have := unhide HWS; omega, by have := hb2.size; simp [World.setCell] at this ⊢; omega, hide (((n3.set 0 (.string nm) (by simp)).set 1 (.slice none 0 0) (by simp)).set 2 (.int .i64 ty) (by simp)), hide (((kW.setCell (p := ⟨W.heap.size, 0, none⟩) (Nat.le_refl _) _).setCell (p := ⟨W.heap.size, 1, none⟩) (Nat.le_refl _) _).setCell (p := ⟨W.heap.size, 2, none⟩) (Nat.le_refl _) _)⟩
  case rest =>
  obtain ⟨B, rfl, hB1, hB2, HBK, HBW⟩ := hcut
  clear p0 p3 p0' p3' hlt hne HD0 HC
  have n0 := (unhide N0).below (unhide HBW) (by have := unhide HWS; omega)
  have n1 := (unhide N1).below (unhide HBW) (by have := unhide HWS; omega)
  have hwc : Below w.heap.size w wc := (unhide HW).trans ((unhide HBW).mono (by have := unhide HWS; omega))
  have HWC := hide hwc
  have p2 := n0.cellAt (i := 2) rfl
  have NN1 := hide n1
  clear n0 n1 hwc N0 N1 HW HBW
  go_wp2
  go_loopw [5, 15] (fun _ i wr => ∃ (k : Nat) (v : Value), k ≤ args.length ∧ i = .int .i64 k ∧ Hid (wr.ownsRow wc.heap.size 3 1 v k (((args.take k).map TA.type).map (Value.int .i64))) ∧ Hid (Blk wr B [.string nm, v, .int .i64 ty]) ∧ Hid (Below B wc wr) ∧ B < wr.heap.size) (fun _ i _ => args.length - (intOf i).toNat)
  case atStart => exact ⟨0, .slice none 0 0, Nat.zero_le _, rfl, hide (World.ownsRow_nil _ _ _ _), HBK, hide (Below.refl _ _), hB2⟩
  case round =>
    obtain ⟨k, v, hk, rfl, HROW, HBLK, HB, hBr⟩ := hrel
    obtain ⟨vs, cp, rfl⟩ := own_sliceN (unhide HROW)
    have hwr : Below w.heap.size w wr := (unhide HWC).trans ((unhide HB).mono (by omega))
    have HWR := hide hwr
    clear hwr
    by_cases hp : k < args.length
    · rcases unhide HA _ (unhide HWR) with hq | ⟨b, off, rfl, hbl, hbn, hcs⟩
      · rw [hq] at hp; simp at hp
      obtain ⟨c0, c1, d0, d1, hr⟩ := hcs k hp
      have htk : args.take (k + 1) = args.take k ++ [args[k]] := List.take_succ_eq_append_getElem hp
      obtain ⟨x, hx⟩ : ∃ x, args[k]'hp = x := ⟨_, rfl⟩
      rw [hx] at hr htk
      have hv := hr.1
      simp only [Value.agg.injEq, Array.mk.injEq, List.cons.injEq, and_true] at hv
      obtain ⟨rfl, rfl⟩ := hv
      obtain ⟨xn, xt⟩ := x
      dsimp only at d0 d1
      have HTK := hide htk
      have e1 := (unhide HBLK).cellAt (i := 1) rfl
      have hBne : B ≠ wr.heap.size := by omega
      clear hcs hr hx htk
      go_wp2_with (at_builtin; refine wpList_append_own _ rfl _ _ 79 rfl wc.heap.size 3 i0 (.int .i64 0) 1 8 Tryz.underlying79 hi hz0 hz1 hz2 rfl (by decide) _ _ _ rfl (((unhide HROW).alloc _).alloc _) ⟨wr.heap.size + 1, 0, none⟩ 1 1 [.int .i64 xt] rfl rfl ?cn (by simp [Value.oneCell']) (by unfold maxLen; omega) (by omega) (by have := (unhide HB).size; simp; omega) ?_; rotate_left; intro v2 w3 hown2 hgrow2 _; obtain ⟨vs2, cp2, rfl⟩ := own_sliceN hown2; have hb3 : Below wc.heap.size ((wr.alloc (.cells #[.string xn, .int .i64 xt] 37)).alloc (.cells #[.int .i64 xt] 3)) w3 := ((Below.refl _ _).grown hgrow2 (by have := (unhide HB).size; simp; omega) (fun q hq => (((unhide HROW).lt q hq)).1)); have n3 : Blk w3 B [.string nm, .slice vs k cp, .int .i64 ty] := (((unhide HBLK).old _ hBr).old _ (by simp; omega)).below hb3 hB2; have g1 := n3.cellAt (i := 1) rfl; have f1 := n3.2 1; have NN3 := hide n3; have HB3 := hide hb3; have HO3 := hide hown2; clear n3 hb3 hown2 hgrow2 e1 d0 d1)
      case cn =>
        have := one_newN (wr.alloc (.cells #[.string xn, .int .i64 xt] 37)) (.int .i64 xt) 3
        rw [alloc_size] at this
        exact this
      go_roundw
      case rel =>
        refine ⟨k + 1, .slice vs2 (k + 1) cp2, by omega, by go_num, hide ?_, hide ((unhide NN3).set 1 (.slice vs2 (k + 1) cp2) (by simp)), hide ?_, ?_⟩
        · rw [unhide HTK, List.map_append, List.map_append]
          exact own_setN (unhide HO3) hB2
        · refine Below.setCell ?_ (p := ⟨B, 1, none⟩) (Nat.le_refl _) _
          exact (unhide HB).trans ((((Below.refl _ wr).alloc (by omega) _).alloc (by simp; omega) _).trans ((unhide HB3).mono (by omega)))
        · have := (unhide HB3).size
          simp [World.setCell] at this ⊢
          omega
      case measure => simp [intOf]; omega
    · have hek : k = args.length := by omega
      subst hek
      have HR := unhide HROW
      rw [List.take_of_length_le (Nat.le_refl _)] at HR
      have HOI := hide (own_of_row HR)
      clear HR
      have e0 := (unhide HBLK).cellAt (i := 0) rfl
      have e1 := (unhide HBLK).cellAt (i := 1) rfl
      have e2 := (unhide HBLK).cellAt (i := 2) rfl
      have n1 := (unhide NN1).below (unhide HB) (by omega)
      have q0 := n1.cellAt (i := 0) rfl
      have q1 := n1.cellAt (i := 1) rfl
      have q2 := n1.cellAt (i := 2) rfl
      have f0 := n1.2 0
      have f1 := n1.2 1
      have f2 := n1.2 2
      have N1R := hide n1
      clear n1
      go_wp2
      obtain ⟨F, hF⟩ : ∃ F, F = (((wr.setCell ⟨w.heap.size + 1, 0, none⟩ (.string nm)).setCell ⟨w.heap.size + 1, 1, none⟩ (.slice vs args.length cp)).setCell ⟨w.heap.size + 1, 2, none⟩ (.int .i64 ty)) := ⟨_, rfl⟩
      have hn := (((unhide N1R).set 0 (.string nm) (by simp)).set 1 (.slice vs args.length cp) (by simp)).set 2 (.int .i64 ty) (by simp)
      have hFB := (((Below.refl w.heap.size wr).setCell (p := ⟨w.heap.size + 1, 0, none⟩) (by simp) (.string nm)).setCell (p := ⟨w.heap.size + 1, 1, none⟩) (by simp) (.slice vs args.length cp)).setCell (p := ⟨w.heap.size + 1, 2, none⟩) (by simp) (.int .i64 ty)
      have hFO : ∀ b, w.heap.size + 2 ≤ b → F.heap[b]? = wr.heap[b]? := fun b hb => by rw [hF, Below.heap_setCell _ _ _ _ (by simp; omega), Below.heap_setCell _ _ _ _ (by simp; omega), Below.heap_setCell _ _ _ _ (by simp; omega)]
      have hFS : F.heap.size = wr.heap.size := by rw [hF]; simp [World.setCell]
      rw [← hF] at hn hFB ⊢
      have g0 := hn.cellAt (i := 0) rfl
      have g1 := hn.cellAt (i := 1) rfl
      have g2 := hn.cellAt (i := 2) rfl
      refine bodyPost_ret (v := .agg #[Value.string nm, Value.slice vs args.length cp, Value.int .i64 ty]) (by simp [results, Tryz.results132, go_sem, g0, g1, g2]) rfl ?_
      refine ⟨_, rfl, (unhide HOI).same (fun b hb hbn => ⟨fun j => World.cell?_of_block (w := wr) (a := ⟨b, j, none⟩) (hFO b (by omega)), fun j => World.frozen?_of_block (w := wr) (a := ⟨b, j, none⟩) (hFO b (by omega))⟩) (by have := (unhide HWC).size; omega) (by omega), (unhide HWR).trans hFB⟩
end Go.Proofs.YtgmohnbjfemebaaGreatDoor

namespace Go.Proofs.YtgmohnbjfemebaaGreatDoor
open Go.RowKit Go.PlainAid

set_option maxHeartbeats 1000000 in
theorem index_anyN (lo : Nat) (a : Option Addr) (cap : Nat) (ws : List ByteArray) (x : ByteArray) (w : World) (h : IsWds w lo w.heap.size a ws) (hl : ws.length ≤ maxLen) :
    Calls Tryz.prog 131 #[.slice a ws.length cap, .string x] w fun r w' => (∃ i : Int, r = .returned (.int .i64 i) ∧ decide (0 ≤ i) = hasB ws x) ∧ Below w.heap.size w w' := by
  unfold maxLen at hl
  have HW := hide h
  clear h
  go_enter Tryz.func131, Tryz.ntmps131
  go_wp2
  go_loop [8] (fun i => ∃ k : Nat, k ≤ ws.length ∧ i = .int .i64 k ∧ Hid (hasB (ws.take k) x = false)) (fun i => ws.length - (intOf i).toNat)
  case atStart => exact ⟨0, Nat.zero_le _, rfl, hide rfl⟩
  case round =>
    obtain ⟨k, hk, rfl, HN⟩ := hrel
    by_cases hp : k < ws.length
    · rcases (unhide HW) with hq | ⟨b, off, rfl, hbl, hbn, hc⟩
      · rw [hq] at hp; simp at hp
      have hck := hc k hp
      have hst := has_take ws x k hp
      have hmo := has_more ws x k ws.length hp hp
      rw [List.take_of_length_le (Nat.le_refl _)] at hmo
      obtain ⟨y, hy⟩ : ∃ y, ws[k]'hp = y := ⟨_, rfl⟩
      rw [hy] at hck hst hmo
      have sy : (y.toList == x.toList) = (x.toList == y.toList) := by rw [Bool.eq_iff_iff]; simp; exact eq_comm
      rw [sy] at hst hmo
      have HST := hide hst
      have HMO := hide hmo
      clear hst hmo hy hc sy
      cases he : (x.toList == y.toList) with
      | true =>
        have HF := hide (unhide HMO he)
        go_wp2
        go_ret
        exact ⟨⟨_, rfl, by rw [unhide HF]; exact decide_eq_true (by omega)⟩, Below.refl _ _⟩
      | false =>
        have HH : Hid (hasB (ws.take (k + 1)) x = false) := hide (by rw [unhide HST, unhide HN, he]; rfl)
        go_wp2
        go_round
        case rel => exact ⟨k + 1, by omega, by go_num, HH⟩
        case measure => simp [intOf]; omega
    · have HF : Hid (hasB ws x = false) := hide (by
        have := unhide HN
        rw [List.take_of_length_le (by omega)] at this
        exact this)
      go_wp2
      go_ret
      exact ⟨⟨_, rfl, by rw [unhide HF]; rfl⟩, Below.refl _ _⟩
set_option maxHeartbeats 1000000 in
theorem contains_anyN (lo : Nat) (a : Option Addr) (cap : Nat) (ws : List ByteArray) (x : ByteArray) (w : World) (h : IsWds w lo w.heap.size a ws) (hl : ws.length ≤ maxLen) :
    Calls Tryz.prog 106 #[.slice a ws.length cap, .string x] w fun r w' => r = .returned (.bool (hasB ws x)) ∧ Below w.heap.size w w' := by
  have H := hide (index_anyN lo a cap ws x w h hl)
  clear h hl
  go_enter Tryz.func106, Tryz.ntmps106
  go_wp2_with fail
  refine (unhide H).mono ?_
  rintro r w2 ⟨⟨i, rfl, hi⟩, hb⟩
  have HI := hide hi
  clear hi
  go_wp2
  go_ret
  exact ⟨ret_bool (unhide HI), hb⟩

theorem below_newY (w : World) (o : Obj) : Below w.heap.size w (w.alloc o) := (Below.refl _ _).alloc (Nat.le_refl _) _
/-- Whether a face is that of a module. -/
def isMod (md : ByteArray) (f : TY) : Bool := f.mod.toList == md.toList
/-- The place of the first face of a module, or -1. -/
def placeY (l : List TY) (md : ByteArray) : Int := match l.findIdx? (isMod md) with | some k => (k : Int) | none => -1
theorem placeY_at {l : List TY} {md : ByteArray} {k : Nat} (hk : k < l.length) (hno : ∀ j (hj : j < l.length), j < k → isMod md l[j] = false) (he : isMod md l[k] = true) : placeY l md = (k : Int) := by
  have : l.findIdx? (isMod md) = some k := by
    rw [List.findIdx?_eq_some_iff_getElem]
    exact ⟨hk, he, fun j hj => by rw [hno j (by omega) hj]; simp⟩
  unfold placeY
  rw [this]
theorem placeY_none {l : List TY} {md : ByteArray} (hno : ∀ j (hj : j < l.length), isMod md l[j] = false) : placeY l md = -1 := by
  have : l.findIdx? (isMod md) = none := by
    rw [List.findIdx?_eq_none_iff]
    intro x hx
    obtain ⟨j, hj, rfl⟩ := List.getElem_of_mem hx
    exact hno j hj
  unfold placeY
  rw [this]

set_option maxHeartbeats 1000000 in
theorem placeC_any (lo B : Nat) (v : Value) (f : TY) (md : ByteArray) (w : World) (hF : IsFace w lo w.heap.size v f) (hc : w.cell? ⟨B, 0, none⟩ = some (.string md)) (hB : B < w.heap.size) :
    Calls Tryz.prog 122 #[v, .pointer (some ⟨B, 0, none⟩)] w fun r w' => r = .returned (.bool (isMod md f)) ∧ Below w.heap.size w w' := by
  obtain ⟨m, sigs⟩ := f
  obtain ⟨aa, ca, rfl, _, _⟩ := hF
  dsimp only
  have HX : Hid (isMod md ⟨m, sigs⟩ = (m.toList == md.toList)) := hide rfl
  generalize isMod md ⟨m, sigs⟩ = R at HX ⊢
  have hBne : B ≠ w.heap.size := by omega
  cases he : (m.toList == md.toList)
  all_goals
    have HR := hide ((unhide HX).trans he)
    clear HX
    go_enter Tryz.func122, Tryz.ntmps122
    go_wp2
    go_ret
    exact ⟨ret_bool (unhide HR).symm, (Below.refl _ _).alloc (Nat.le_refl _) _⟩

set_option maxHeartbeats 2000000 in
theorem indexF_any (lo B : Nat) (a : Option Addr) (cap : Nat) (l : List TY) (md : ByteArray) (w : World) (h : IsFaces (IsFace w lo w.heap.size) w lo w.heap.size a l) (hl : l.length ≤ maxLen) (hc : w.cell? ⟨B, 0, none⟩ = some (.string md)) (hB : B < w.heap.size) :
    Calls Tryz.prog 121 #[.slice a l.length cap, .func (.func 122) #[] #[.pointer (some ⟨B, 0, none⟩)]] w fun r w' => r = .returned (.int .i64 (placeY l md)) ∧ Below w.heap.size w w' := by
  unfold maxLen at hl
  have HW := hide h
  have HC := hide hc
  clear h hc
  go_enter Tryz.func121, Tryz.ntmps121
  go_wp2
  go_loopw [5, 8] (fun _ i wr => ∃ k : Nat, k ≤ l.length ∧ i = .int .i64 k ∧ Hid (∀ j (hj : j < l.length), j < k → isMod md l[j] = false) ∧ Hid (Below w.heap.size w wr)) (fun _ i _ => l.length - (intOf i).toNat)
  case atStart => exact ⟨0, Nat.zero_le _, rfl, hide (fun j _ hj => absurd hj (Nat.not_lt_zero _)), hide (Below.refl _ _)⟩
  case round =>
    obtain ⟨k, hk, rfl, HN, HB⟩ := hrel
    by_cases hp : k < l.length
    · rcases (unhide HW).kept (unhide HB) (unhide HB).size with hq | ⟨b, off, rfl, hbl, hbn, hcs⟩
      · rw [hq] at hp; simp at hp
      obtain ⟨c0, c1, d0, d1, hr⟩ := hcs k hp
      have HY := hide (fun (h2 : isMod md (l[k]'hp) = true) => placeY_at hp (unhide HN) h2)
      have HNN : Hid (isMod md (l[k]'hp) = false → ∀ j (hj : j < l.length), j < k + 1 → isMod md l[j] = false) := hide (fun h2 j hj hjk => by
        by_cases e : j = k
        · subst e; exact h2
        · exact unhide HN j hj (by omega))
      have HCL := hide (placeC_any lo B _ _ md wr hr (((unhide HB).cell (p := ⟨B, 0, none⟩) hB).trans (unhide HC)) (Nat.lt_of_lt_of_le hB (unhide HB).size))
      generalize isMod md (l[k]'hp) = R at HY HNN HCL
      clear hcs hr
      go_wp2_with fail
      refine (unhide HCL).mono ?_
      rintro r w2 ⟨rfl, hb2⟩
      have HB2 := hide ((unhide HB).trans (hb2.mono (unhide HB).size))
      clear hb2 HCL d0 d1
      cases R with
      | true =>
        have HE := hide (unhide HY rfl)
        go_wp2
        go_ret
        exact ⟨ret_int (unhide HE).symm, unhide HB2⟩
      | false =>
        have HE := hide (unhide HNN rfl)
        go_wp2
        go_roundw
        case rel => exact ⟨k + 1, by omega, by go_num, HE, HB2⟩
        case measure => simp [intOf]; omega
    · have HE := hide (placeY_none (l := l) (md := md) (fun j hj => unhide HN j hj (by omega)))
      go_wp2
      go_ret
      exact ⟨ret_int (unhide HE).symm, unhide HB⟩

set_option maxHeartbeats 1000000 in
theorem facePlace_any (lo : Nat) (a : Option Addr) (cap : Nat) (l : List TY) (md : ByteArray) (w : World) (h : IsFaces (IsFace w lo w.heap.size) w lo w.heap.size a l) (hl : l.length ≤ maxLen) :
    Calls Tryz.prog 92 #[.slice a l.length cap, .string md] w fun r w' => r = .returned (.int .i64 (placeY l md)) ∧ Below w.heap.size w w' := by
  have HI := hide (indexF_any lo w.heap.size a cap l md (w.alloc (.cells #[.string md] 9)) (h.kept (below_newY _ _) (by simp)) hl (alloc_cell _ _ _ _) (by simp))
  clear h hl
  go_enter Tryz.func92, Tryz.ntmps92
  go_wp2_with fail
  refine (unhide HI).mono ?_
  rintro r w2 ⟨rfl, hb2⟩
  have HB := hide ((below_newY w (.cells #[.string md] 9)).trans (hb2.mono (by simp)))
  clear hb2
  go_wp2
  go_ret
  exact ⟨rfl, unhide HB⟩
end Go.Proofs.YtgmohnbjfemebaaGreatDoor

namespace Go.Proofs.YtgmohnbjfemebaaGreatDoor
open Go.RowKit Go.PlainAid

def zS : TS := ⟨⟨#[]⟩, [], 0⟩
def isS (nm : ByteArray) (s : TS) : Bool := s.name.toList == nm.toList
def isF (nm : ByteArray) (f : TF) : Bool := f.name.toList == nm.toList
/-- What is known of a function that a module may call. -/
def findSig (m : TM) (ys : List TY) (md nm : ByteArray) : Option TS :=
  if (md.toList == []) = true then (m.funs.find? (isF nm)).map sigOf
  else if hasB m.uses md = true then (ys.find? (isMod md)).bind (fun y => y.sigs.find? (isS nm)) else none
/-- The answer of TypeFind. -/
abbrev FPost (w : World) (o : Option TS) (r : Ending) (w' : World) : Prop := ∃ v : Value, r = .returned (.tuple #[.agg #[.string (o.getD zS).name, v, .int .i64 (o.getD zS).type], .bool o.isSome]) ∧ OwnI w' w.heap.size w'.heap.size v (o.getD zS).args ∧ Below w.heap.size w w'
theorem find_at {α : Type} {p : α → Bool} {l : List α} {k : Nat} (hk : k < l.length) (hno : ∀ j (hj : j < l.length), j < k → p l[j] = false) (he : p l[k] = true) : l.find? p = some l[k] := by
  rw [List.find?_eq_some_iff_getElem]
  exact ⟨he, k, hk, rfl, fun j hj => by simp [hno j (by omega) hj]⟩
theorem find_none {α : Type} {p : α → Bool} {l : List α} (hno : ∀ j (hj : j < l.length), p l[j] = false) : l.find? p = none := by
  rw [List.find?_eq_none]
  intro x hx
  obtain ⟨j, hj, rfl⟩ := List.getElem_of_mem hx
  simp [hno j hj]
theorem no_next {α : Type} {p : α → Bool} {l : List α} {k : Nat} (hp : k < l.length) (hno : ∀ j (hj : j < l.length), j < k → p l[j] = false) (he : p l[k] = false) : ∀ j (hj : j < l.length), j < k + 1 → p l[j] = false := fun j hj hjk => by
  by_cases e : j = k
  · subst e; exact he
  · exact hno j hj (by omega)
theorem placeY_find {l : List TY} {md : ByteArray} : (∃ k, ∃ hk : k < l.length, placeY l md = (k : Int) ∧ l.find? (isMod md) = some l[k]) ∨ (placeY l md = -1 ∧ l.find? (isMod md) = none) := by
  unfold placeY
  cases h : l.findIdx? (isMod md) with
  | none =>
    refine .inr ⟨rfl, ?_⟩
    rw [List.findIdx?_eq_none_iff] at h
    rw [List.find?_eq_none]
    intro x hx
    simp [h x hx]
  | some k =>
    rw [List.findIdx?_eq_some_iff_getElem] at h
    obtain ⟨hk, he, hno⟩ := h
    exact .inl ⟨k, hk, rfl, find_at hk (fun j hj hjk => by simpa using hno j hjk) he⟩
end Go.Proofs.YtgmohnbjfemebaaGreatDoor

namespace Go.Proofs.YtgmohnbjfemebaaGreatDoor
open Go.RowKit Go.PlainAid

set_option maxRecDepth 100000 in
set_option maxHeartbeats 4000000 in
theorem TypeFindI_own (lo h lo2 : Nat) (v : Value) (m : TM) (a : Option Addr) (cap : Nat) (ys : List TY) (md nm : ByteArray) (w : World) (hM : IsMod w lo w.heap.size h v m) (hwt : ∀ f ∈ m.funs, f.args.length ≤ 1048576 ∧ f.name.size ≤ 1048576)
    (hY : IsFaces (IsFace w lo2 w.heap.size) w lo2 w.heap.size a ys) (hmd : (md.toList == []) = true) :
    Calls Tryz.prog 109 #[v, .slice a ys.length cap, .string md, .string nm] w fun r w' => FPost w (findSig m ys md nm) r w' := by
  have HX : Hid (findSig m ys md nm = (m.funs.find? (isF nm)).map sigOf) := hide (by unfold findSig; rw [if_pos hmd])
  generalize findSig m ys md nm = R at HX ⊢
  obtain ⟨us, fs, mn⟩ := m
  obtain ⟨a1, a2, a3, k1, k2, k3, rfl, ⟨hz1, hz2, _, _, _⟩, q1, q2, _⟩ := hM
  dsimp only at hz1 hz2 q1 q2 hwt
  have n0 : Blk ((w.alloc (.cells [Value.slice a1 us.length k1, Value.slice a2 fs.length k2, Value.slice a3 mn.length k3].toArray 27)).alloc (.cells [Value.string ⟨#[]⟩, Value.slice none 0 0, Value.int .i64 0].toArray 81)) w.heap.size [Value.slice a1 us.length k1, Value.slice a2 fs.length k2, Value.slice a3 mn.length k3] := (Blk.new w [Value.slice a1 us.length k1, Value.slice a2 fs.length k2, Value.slice a3 mn.length k3] 27).old _ (by simp)
  have n1 : Blk ((w.alloc (.cells [Value.slice a1 us.length k1, Value.slice a2 fs.length k2, Value.slice a3 mn.length k3].toArray 27)).alloc (.cells [Value.string ⟨#[]⟩, Value.slice none 0 0, Value.int .i64 0].toArray 81)) (w.heap.size + 1) [Value.string ⟨#[]⟩, Value.slice none 0 0, Value.int .i64 0] := by
    have := Blk.new (w.alloc (.cells [Value.slice a1 us.length k1, Value.slice a2 fs.length k2, Value.slice a3 mn.length k3].toArray 27)) [Value.string ⟨#[]⟩, Value.slice none 0 0, Value.int .i64 0] 81
    rw [alloc_size] at this
    exact this
  have hW : Below w.heap.size w ((w.alloc (.cells [Value.slice a1 us.length k1, Value.slice a2 fs.length k2, Value.slice a3 mn.length k3].toArray 27)).alloc (.cells [Value.string ⟨#[]⟩, Value.slice none 0 0, Value.int .i64 0].toArray 81)) := ((Below.refl _ w).alloc (Nat.le_refl _) _).alloc (by simp) _
  have HFS := hide (fun (W : World) (hb : Below w.heap.size w W) => q2.kept hb hb.size)
  have HUS := hide (fun (W : World) (hb : Below w.heap.size w W) => q1.kept hb hb.size)
  have HYS := hide (fun (W : World) (hb : Below w.heap.size w W) => hY.kept hb hb.size)
  unfold maxLen at hz2
  clear q1 q2 hY
  dsimp only at HX
  clear HUS HYS
  go_enter Tryz.func109, Tryz.ntmps109
  go_wp2
  obtain ⟨W, hWW⟩ : ∃ W, W = ((w.alloc (.cells [Value.slice a1 us.length k1, Value.slice a2 fs.length k2, Value.slice a3 mn.length k3].toArray 27)).alloc (.cells [Value.string ⟨#[]⟩, Value.slice none 0 0, Value.int .i64 0].toArray 81)) := ⟨_, rfl⟩
  have hWs : W.heap.size = w.heap.size + 1 + 1 := by rw [hWW]; simp
  rw [← hWW] at n0 n1 hW ⊢
  clear hWW
  have N1 := hide n1
  have HW := hide hW
  have HWS := hide hWs
  clear n0 n1 hW hWs
  go_loopw [11, 21] (fun _ i wr => ∃ k : Nat, k ≤ fs.length ∧ i = .int .i64 k ∧ Hid (∀ j (hj : j < fs.length), j < k → isF nm fs[j] = false) ∧ Hid (Below W.heap.size W wr)) (fun _ i _ => fs.length - (intOf i).toNat)
  case atStart => exact ⟨0, Nat.zero_le _, rfl, hide (fun j _ hj => absurd hj (Nat.not_lt_zero _)), hide (Below.refl _ _)⟩
  case round =>
    obtain ⟨k, hk, rfl, HN, HB⟩ := hrel
    have HWR := hide ((unhide HW).trans ((unhide HB).mono (by have := unhide HWS; omega)))
    have HSZ : Hid (w.heap.size + 1 + 1 ≤ wr.heap.size) := hide (by have := unhide HWS; have := (unhide HB).size; omega)
    by_cases hp : k < fs.length
    · rcases unhide HFS _ (unhide HWR) with hq | ⟨b, off, rfl, hbl, hbn, hcs⟩
      · rw [hq] at hp; simp at hp
      obtain ⟨c0, c1, c2, c3, c4, c5, c6, c7, c8, d0, d1, d2, d3, d4, d5, d6, d7, d8, hr⟩ := hcs k hp
      have hwk := hwt _ (List.getElem_mem hp)
      have HNX := hide (fun (he : isF nm (fs[k]'hp) = false) => no_next hp (unhide HN) he)
      have HFX := hide (fun (he : isF nm (fs[k]'hp) = true) => find_at hp (unhide HN) he)
      obtain ⟨x, hx⟩ : ∃ x, fs[k]'hp = x := ⟨_, rfl⟩
      rw [hx] at hr hwk HNX HFX
      have HIS : Hid (isF nm x = (x.name.toList == nm.toList)) := hide rfl
      obtain ⟨xs, xp, xa, xl, xc, xt, xk, xm, xn, xd, ya, yl, yc, rfl, rfl, rfl, rfl, rfl, rfl, rfl, rfl, rfl⟩ := IsFun.form h hr
      have hxn : x.name = xs := by
        obtain ⟨_, _, _, _, _, _, _, hv, _⟩ := hr
        simp only [Value.agg.injEq, Array.mk.injEq, List.cons.injEq, Value.string.injEq] at hv
        exact hv.1.symm
      rw [hxn] at HIS
      have HFO := hide (fun (W' : World) (hb : Below wr.heap.size wr W') => faceSigOf_any lo h _ x W' (IsFun.same h (Below.same hb) (Nat.le_refl _) hb.size _ _ hr) hwk.1 hwk.2)
      have n1 := (unhide N1).below (unhide HB) (by have := unhide HWS; omega)
      have NR := hide n1
      clear hcs hr hx hwk n1
      cases he : (xs.toList == nm.toList) with
      | true =>
        have HRR : Hid (R = some (sigOf x)) := hide (by rw [unhide HX, unhide HFX ((unhide HIS).trans he)]; rfl)
        clear HX HFX HNX HN
        go_wp2_with fail
        refine (unhide HFO _ (below_newY _ _)).mono ?_
        rintro r w2 ⟨v2, rfl, ho2, hb2⟩
        obtain ⟨o2, p2, rfl, hk2⟩ := ho2
        have n2 := ((unhide NR).old (.cells #[.string xs, .bool xp, .slice xa xl xc, .int .i64 xt, .int .i64 xk, .int .i64 xm, .string xn, .string xd, .slice ya yl yc] 108) (by have := unhide HSZ; omega)).below hb2 (by have := unhide HSZ; simp; omega)
        have hB2 := (unhide HWR).trans (((below_newY wr (.cells #[.string xs, .bool xp, .slice xa xl xc, .int .i64 xt, .int .i64 xk, .int .i64 xm, .string xn, .string xd, .slice ya yl yc] 108)).trans (hb2.mono (by simp))).mono (unhide HWR).size)
        have hs2 : wr.heap.size + 1 ≤ w2.heap.size := by have := hb2.size; rw [alloc_size] at this; exact this
        rw [alloc_size] at hk2
        have q0 := n2.cellAt (i := 0) rfl
        have q1 := n2.cellAt (i := 1) rfl
        have q2 := n2.cellAt (i := 2) rfl
        have f0 := n2.2 0
        have f1 := n2.2 1
        have f2 := n2.2 2
        have N1R := hide n2
        have HB2 := hide hB2
        have HK2 := hide hk2
        have HS2 := hide hs2
        obtain ⟨sn, hsn⟩ : ∃ sn, (sigOf x).name = sn := ⟨_, rfl⟩
        obtain ⟨st, hst⟩ : ∃ st, (sigOf x).type = st := ⟨_, rfl⟩
        obtain ⟨sa, hsa⟩ : ∃ sa, (sigOf x).args = sa := ⟨_, rfl⟩
        rw [hsn, hst, hsa]
        rw [hsa] at HK2
        have HSS := hide (And.intro hsn (And.intro hst hsa))
        clear n2 hb2 hB2 hk2 hs2 hsn hst hsa HFO d0 d1 d2 d3 d4 d5 d6 d7 d8
        go_wp2
        obtain ⟨F, hF⟩ : ∃ F, F = (((w2.setCell ⟨w.heap.size + 1, 0, none⟩ (.string sn)).setCell ⟨w.heap.size + 1, 1, none⟩ (.slice o2 sa.length p2)).setCell ⟨w.heap.size + 1, 2, none⟩ (.int .i64 st)) := ⟨_, rfl⟩
        have hn := (((unhide N1R).set 0 (.string sn) (by simp)).set 1 (.slice o2 sa.length p2) (by simp)).set 2 (.int .i64 st) (by simp)
        have hFB := (((Below.refl w.heap.size w2).setCell (p := ⟨w.heap.size + 1, 0, none⟩) (by simp) (.string sn)).setCell (p := ⟨w.heap.size + 1, 1, none⟩) (by simp) (.slice o2 sa.length p2)).setCell (p := ⟨w.heap.size + 1, 2, none⟩) (by simp) (.int .i64 st)
        have hFO : ∀ b, w.heap.size + 2 ≤ b → F.heap[b]? = w2.heap[b]? := fun b hb => by rw [hF, Below.heap_setCell _ _ _ _ (by simp; omega), Below.heap_setCell _ _ _ _ (by simp; omega), Below.heap_setCell _ _ _ _ (by simp; omega)]
        have hFS : F.heap.size = w2.heap.size := by rw [hF]; simp [World.setCell]
        rw [← hF] at hn hFB ⊢
        have g0 := hn.cellAt (i := 0) rfl
        have g1 := hn.cellAt (i := 1) rfl
        have g2 := hn.cellAt (i := 2) rfl
        refine bodyPost_ret (v := .tuple #[.agg #[Value.string sn, Value.slice o2 sa.length p2, Value.int .i64 st], .bool true]) (by simp [results, Tryz.results109, go_sem, g0, g1, g2]) rfl ?_
        obtain ⟨e1, e2, e3⟩ := unhide HSS
        rw [unhide HRR]
        refine ⟨.slice o2 sa.length p2, by rw [← e1, ← e2]; rfl, ?_, (unhide HB2).trans hFB⟩
        show OwnI F w.heap.size F.heap.size _ (sigOf x).args
        rw [e3]
        refine ⟨o2, p2, rfl, ?_⟩
        rcases unhide HK2 with h | ⟨b, h1, h2, h3, h4, h5⟩
        · exact .inl h
        · have hblk := hFO b (by have := unhide HSZ; omega)
          exact .inr ⟨b, h1, by have := unhide HSZ; omega, by omega, fun j hj => (World.cell?_of_block (w := w2) (a := ⟨b, j, none⟩) hblk).trans (h4 j hj), fun j => (World.frozen?_of_block (w := w2) (a := ⟨b, j, none⟩) hblk).trans (h5 j)⟩
      | false =>
        have HNN := hide (unhide HNX ((unhide HIS).trans he))
        clear HX HFX HNX HN HFO
        go_wp2
        go_roundw
        case rel => exact ⟨k + 1, by omega, by go_num, HNN, hide ((unhide HB).alloc (unhide HB).size _)⟩
        case measure => simp [intOf]; omega
    · have HRR : Hid (R = none) := hide (by rw [unhide HX, find_none (fun j hj => unhide HN j hj (by omega))]; rfl)
      have n1 := (unhide N1).below (unhide HB) (by have := unhide HWS; omega)
      have q0 := n1.cellAt (i := 0) rfl
      have q1 := n1.cellAt (i := 1) rfl
      have q2 := n1.cellAt (i := 2) rfl
      have f0 := n1.2 0
      have f1 := n1.2 1
      have f2 := n1.2 2
      have N1R := hide n1
      clear n1 HX HN
      go_wp2
      obtain ⟨F, hF⟩ : ∃ F, F = (((wr.setCell ⟨w.heap.size + 1, 0, none⟩ (.string ⟨#[]⟩)).setCell ⟨w.heap.size + 1, 1, none⟩ (.slice none 0 0)).setCell ⟨w.heap.size + 1, 2, none⟩ (.int .i64 0)) := ⟨_, rfl⟩
      have hn := (((unhide N1R).set 0 (.string ⟨#[]⟩) (by simp)).set 1 (.slice none 0 0) (by simp)).set 2 (.int .i64 0) (by simp)
      have hFB := (((Below.refl w.heap.size wr).setCell (p := ⟨w.heap.size + 1, 0, none⟩) (by simp) (.string ⟨#[]⟩)).setCell (p := ⟨w.heap.size + 1, 1, none⟩) (by simp) (.slice none 0 0)).setCell (p := ⟨w.heap.size + 1, 2, none⟩) (by simp) (.int .i64 0)
      have hFO : ∀ b, w.heap.size + 2 ≤ b → F.heap[b]? = wr.heap[b]? := fun b hb => by rw [hF, Below.heap_setCell _ _ _ _ (by simp; omega), Below.heap_setCell _ _ _ _ (by simp; omega), Below.heap_setCell _ _ _ _ (by simp; omega)]
      have hFS : F.heap.size = wr.heap.size := by rw [hF]; simp [World.setCell]
      rw [← hF] at hn hFB ⊢
      have g0 := hn.cellAt (i := 0) rfl
      have g1 := hn.cellAt (i := 1) rfl
      have g2 := hn.cellAt (i := 2) rfl
      refine bodyPost_ret (v := .tuple #[.agg #[Value.string ⟨#[]⟩, Value.slice none 0 0, Value.int .i64 0], .bool false]) (by simp [results, Tryz.results109, go_sem, g0, g1, g2]) rfl ?_
      rw [unhide HRR]
      exact ⟨.slice none 0 0, rfl, ⟨none, 0, rfl, .inl rfl⟩, (unhide HWR).trans hFB⟩
end Go.Proofs.YtgmohnbjfemebaaGreatDoor

namespace Go.Proofs.YtgmohnbjfemebaaGreatDoor
open Go.RowKit Go.PlainAid

set_option maxRecDepth 100000 in
set_option maxHeartbeats 8000000 in
theorem TypeFindI_other (lo h lo2 : Nat) (v : Value) (m : TM) (a : Option Addr) (cap : Nat) (ys : List TY) (md nm : ByteArray) (w : World) (hM : IsMod w lo w.heap.size h v m)
    (hY : IsFaces (IsFace w lo2 w.heap.size) w lo2 w.heap.size a ys) (hyl : ys.length ≤ maxLen) (hys : ∀ y ∈ ys, ∀ s ∈ y.sigs, s.args.length ≤ 1048576 ∧ s.name.size ≤ 1048576) (hmd : (md.toList == []) = false) :
    Calls Tryz.prog 109 #[v, .slice a ys.length cap, .string md, .string nm] w fun r w' => FPost w (findSig m ys md nm) r w' := by
  have HX : Hid (findSig m ys md nm = if hasB m.uses md = true then (ys.find? (isMod md)).bind (fun y => y.sigs.find? (isS nm)) else none) := hide (by unfold findSig; rw [hmd]; rfl)
  generalize findSig m ys md nm = R at HX ⊢
  obtain ⟨us, fs, mn⟩ := m
  obtain ⟨a1, a2, a3, k1, k2, k3, rfl, ⟨hz1, _, _, _, _⟩, q1, _, _⟩ := hM
  dsimp only at hz1 q1 HX
  have n0 : Blk ((w.alloc (.cells [Value.slice a1 us.length k1, Value.slice a2 fs.length k2, Value.slice a3 mn.length k3].toArray 27)).alloc (.cells [Value.string ⟨#[]⟩, Value.slice none 0 0, Value.int .i64 0].toArray 81)) w.heap.size [Value.slice a1 us.length k1, Value.slice a2 fs.length k2, Value.slice a3 mn.length k3] := (Blk.new w [Value.slice a1 us.length k1, Value.slice a2 fs.length k2, Value.slice a3 mn.length k3] 27).old _ (by simp)
  have n1 : Blk ((w.alloc (.cells [Value.slice a1 us.length k1, Value.slice a2 fs.length k2, Value.slice a3 mn.length k3].toArray 27)).alloc (.cells [Value.string ⟨#[]⟩, Value.slice none 0 0, Value.int .i64 0].toArray 81)) (w.heap.size + 1) [Value.string ⟨#[]⟩, Value.slice none 0 0, Value.int .i64 0] := by
    have := Blk.new (w.alloc (.cells [Value.slice a1 us.length k1, Value.slice a2 fs.length k2, Value.slice a3 mn.length k3].toArray 27)) [Value.string ⟨#[]⟩, Value.slice none 0 0, Value.int .i64 0] 81
    rw [alloc_size] at this
    exact this
  have hW : Below w.heap.size w ((w.alloc (.cells [Value.slice a1 us.length k1, Value.slice a2 fs.length k2, Value.slice a3 mn.length k3].toArray 27)).alloc (.cells [Value.string ⟨#[]⟩, Value.slice none 0 0, Value.int .i64 0].toArray 81)) := ((Below.refl _ w).alloc (Nat.le_refl _) _).alloc (by simp) _
  have HUS := hide (fun (W : World) (hb : Below w.heap.size w W) => contains_anyN lo a1 k1 us md W (q1.kept hb hb.size) hz1)
  have HPL := hide (fun (W : World) (hb : Below w.heap.size w W) => facePlace_any lo2 a cap ys md W (hY.kept hb hb.size) hyl)
  have HYS := hide (fun (W : World) (hb : Below w.heap.size w W) => hY.kept hb hb.size)
  have HSS := hide hys
  have HYL := hide hyl
  unfold maxLen at hyl
  clear q1 hY hz1 hys
  obtain ⟨W, hWW⟩ : ∃ W, W = ((w.alloc (.cells [Value.slice a1 us.length k1, Value.slice a2 fs.length k2, Value.slice a3 mn.length k3].toArray 27)).alloc (.cells [Value.string ⟨#[]⟩, Value.slice none 0 0, Value.int .i64 0].toArray 81)) := ⟨_, rfl⟩
  have hWs : W.heap.size = w.heap.size + 1 + 1 := by rw [hWW]; simp
  have HWW := hide hWW
  rw [← hWW] at n0 n1 hW
  have N0 := hide n0
  have N1 := hide n1
  have HW := hide hW
  have HWS := hide hWs
  clear n0 n1 hW hWs hWW
  go_enter Tryz.func109, Tryz.ntmps109
  go_wp2_with fail
  rw [← unhide HWW]
  clear HWW
  refine (unhide HPL _ (unhide HW)).mono ?_
  rintro r w2 ⟨rfl, hb2⟩
  have hW2 := (unhide HW).trans (hb2.mono (unhide HW).size)
  have n0 := (unhide N0).below hb2 (by have := unhide HWS; omega)
  have p0 := n0.cellAt (i := 0) rfl
  have HB2 := hide hb2
  have HW2 := hide hW2
  clear hb2 hW2 n0 HPL
  rcases placeY_find (l := ys) (md := md) with ⟨k, hk, hpl, hfi⟩ | ⟨hpl, hfi⟩
  · rw [hpl]
    have HFI := hide hfi
    clear hpl hfi
    go_wp2_with fail
    refine (unhide HUS _ (unhide HW2)).mono ?_
    rintro r w3 ⟨rfl, hb3⟩
    have HB3 := hide ((unhide HB2).trans (hb3.mono (unhide HB2).size))
    have HW3 := hide ((unhide HW2).trans (hb3.mono (unhide HW2).size))
    clear hb3 HB2 HW2 p0
    cases hu : hasB us md with
    | false =>
      have HRR : Hid (R = none) := hide (by rw [unhide HX, hu]; rfl)
      clear HX hu HUS HFI
      have n1 := (unhide N1).below (unhide HB3) (by have := unhide HWS; omega)
      have q0 := n1.cellAt (i := 0) rfl
      have q1 := n1.cellAt (i := 1) rfl
      have q2 := n1.cellAt (i := 2) rfl
      have f0 := n1.2 0
      have f1 := n1.2 1
      have f2 := n1.2 2
      have N1R := hide n1
      have HBE := hide (unhide HW3)
      clear n1
      go_wp2
      obtain ⟨F, hF⟩ : ∃ F, F = (((w3.setCell ⟨w.heap.size + 1, 0, none⟩ (.string ⟨#[]⟩)).setCell ⟨w.heap.size + 1, 1, none⟩ (.slice none 0 0)).setCell ⟨w.heap.size + 1, 2, none⟩ (.int .i64 0)) := ⟨_, rfl⟩
      have hn := (((unhide N1R).set 0 (.string ⟨#[]⟩) (by simp)).set 1 (.slice none 0 0) (by simp)).set 2 (.int .i64 0) (by simp)
      have hFB := (((Below.refl w.heap.size w3).setCell (p := ⟨w.heap.size + 1, 0, none⟩) (by simp) (.string ⟨#[]⟩)).setCell (p := ⟨w.heap.size + 1, 1, none⟩) (by simp) (.slice none 0 0)).setCell (p := ⟨w.heap.size + 1, 2, none⟩) (by simp) (.int .i64 0)
      have hFO : ∀ b, w.heap.size + 2 ≤ b → F.heap[b]? = w3.heap[b]? := fun b hb => by rw [hF, Below.heap_setCell _ _ _ _ (by simp; omega), Below.heap_setCell _ _ _ _ (by simp; omega), Below.heap_setCell _ _ _ _ (by simp; omega)]
      have hFS : F.heap.size = w3.heap.size := by rw [hF]; simp [World.setCell]
      rw [← hF] at hn hFB ⊢
      have g0 := hn.cellAt (i := 0) rfl
      have g1 := hn.cellAt (i := 1) rfl
      have g2 := hn.cellAt (i := 2) rfl
      refine bodyPost_ret (v := .tuple #[.agg #[Value.string ⟨#[]⟩, Value.slice none 0 0, Value.int .i64 0], .bool false]) (by simp [results, Tryz.results109, go_sem, g0, g1, g2]) rfl ?_
      rw [unhide HRR]
      exact ⟨.slice none 0 0, rfl, ⟨none, 0, rfl, .inl rfl⟩, (unhide HBE).trans hFB⟩
    | true =>
      have HX2 : Hid (R = (ys[k]'hk).sigs.find? (isS nm)) := hide (by rw [unhide HX, hu, if_pos rfl, unhide HFI]; rfl)
      clear HX hu HUS HFI
      rcases unhide HYS _ (unhide HW3) with hq | ⟨b, off, rfl, hbl, hbn, hcs⟩
      · rw [hq] at hk; simp at hk
      obtain ⟨c0, c1, d0, d1, hr⟩ := hcs k hk
      have hsk := unhide HSS _ (List.getElem_mem hk)
      obtain ⟨y, hy⟩ : ∃ y, ys[k]'hk = y := ⟨_, rfl⟩
      rw [hy] at hr hsk HX2
      obtain ⟨ym, sigs⟩ := y
      obtain ⟨sa, sc, hv, ⟨_, hsl⟩, hS⟩ := hr
      simp only [Value.agg.injEq, Array.mk.injEq, List.cons.injEq, and_true] at hv
      obtain ⟨rfl, rfl⟩ := hv
      dsimp only at hsk HX2 hS hsl d0 d1
      have HSG := hide (fun (W' : World) (hb : Below w3.heap.size w3 W') => hS.kept hb hb.size)
      have HSK := hide hsk
      unfold maxLen at hsl
      clear hcs hy hS hsk HYS HSS
      go_wp2
      clear d0 d1
      go_loopw [14, 52] (fun _ i wr => ∃ j : Nat, j ≤ sigs.length ∧ i = .int .i64 j ∧ Hid (∀ q (hq : q < sigs.length), q < j → isS nm sigs[q] = false) ∧ Hid (Below w3.heap.size w3 wr)) (fun _ i _ => sigs.length - (intOf i).toNat)
      case atStart => exact ⟨0, Nat.zero_le _, rfl, hide (fun j _ hj => absurd hj (Nat.not_lt_zero _)), hide (Below.refl _ _)⟩
      case round =>
        obtain ⟨j, hj, rfl, HN, HB⟩ := hrel
        have HWR := hide ((unhide HW3).trans ((unhide HB).mono (unhide HW3).size))
        have HBR := hide ((unhide HB3).trans ((unhide HB).mono (unhide HB3).size))
        have HSZ : Hid (w.heap.size + 1 + 1 ≤ wr.heap.size) := hide (by have := unhide HWS; have := (unhide HBR).size; omega)
        by_cases hp : j < sigs.length
        · rcases unhide HSG _ (unhide HB) with hq | ⟨b', off', rfl, hbl', hbn', hcs'⟩
          · rw [hq] at hp; simp at hp
          obtain ⟨c0, c1, c2, d0, d1, d2, hr⟩ := hcs' j hp
          have hjk := unhide HSK _ (List.getElem_mem hp)
          have HNX := hide (fun (he : isS nm (sigs[j]'hp) = false) => no_next hp (unhide HN) he)
          have HFX := hide (fun (he : isS nm (sigs[j]'hp) = true) => find_at hp (unhide HN) he)
          obtain ⟨x, hx⟩ : ∃ x, sigs[j]'hp = x := ⟨_, rfl⟩
          rw [hx] at hr hjk HNX HFX
          obtain ⟨xn, xargs, xt⟩ := x
          have HIS : Hid (isS nm ⟨xn, xargs, xt⟩ = (xn.toList == nm.toList)) := hide rfl
          obtain ⟨xa, xc, hv, _, hI⟩ := hr
          simp only [Value.agg.injEq, Array.mk.injEq, List.cons.injEq, and_true] at hv
          obtain ⟨rfl, rfl, rfl⟩ := hv
          dsimp only at hjk hI d0 d1 d2
          obtain ⟨hjk1, hjk2⟩ := hjk
          have HI := hide (fun (W' : World) (hb : Below wr.heap.size wr W') => hI.kept hb hb.size)
          clear hcs' hx hI
          cases he : (xn.toList == nm.toList) with
          | true =>
            have HRR : Hid (R = some ⟨xn, xargs, xt⟩) := hide (by rw [unhide HX2, unhide HFX ((unhide HIS).trans he)])
            have n1 := (unhide N1).below (unhide HBR) (by have := unhide HWS; omega)
            have NR := hide n1
            clear HX2 HFX HNX HN n1
            have b0 := Blk.new wr [.string xn, .slice xa xargs.length xc, .int .i64 xt] 81
            have B0 := hide b0
            clear b0
            go_wp2_with (at_builtin; refine wpList_app_ints _ rfl _ _ rfl rfl none rfl (.inl rfl) xa xc xargs rfl _ _ (unhide HI _ (below_newY _ _)) hjk1 ?_; intro v2 w4 ho2 hb4; obtain ⟨o2, p2, rfl, hk2⟩ := ho2; have HB4 := hide hb4; have HK2 := hide hk2; clear hb4 hk2 d0 d1 d2)
            have m4 := (unhide B0).below (unhide HB4) (by simp)
            have n4 := ((unhide NR).old _ (by have := unhide HSZ; omega)).below (unhide HB4) (by have := unhide HSZ; simp; omega)
            have e0 := m4.cellAt (i := 0) rfl
            have e2 := m4.cellAt (i := 2) rfl
            have q0 := n4.cellAt (i := 0) rfl
            have q1 := n4.cellAt (i := 1) rfl
            have q2 := n4.cellAt (i := 2) rfl
            have f0 := n4.2 0
            have f1 := n4.2 1
            have f2 := n4.2 2
            have hB4 := (unhide HWR).trans (((below_newY wr (.cells #[.string xn, .slice xa xargs.length xc, .int .i64 xt] 81)).trans ((unhide HB4).mono (by simp))).mono (unhide HWR).size)
            have HE2 : Hid (∀ W' : World, Below w4.heap.size w4 W' → W'.cell? ⟨wr.heap.size, 2, none⟩ = some (.int .i64 xt) ∧ Blk W' (w.heap.size + 1) [Value.string ⟨#[]⟩, Value.slice none 0 0, Value.int .i64 0]) := hide (fun W' hb => ⟨(m4.below hb (by have := (unhide HB4).size; simp at this; omega)).cellAt (i := 2) rfl, n4.below hb (by have h1 := (unhide HB4).size; rw [alloc_size] at h1; have := unhide HSZ; omega)⟩)
            have HBB4 := hide hB4
            have HS4 : Hid (wr.heap.size + 1 ≤ w4.heap.size) := hide (by have := (unhide HB4).size; rw [alloc_size] at this; exact this)
            have HK4 := hide (alloc_size wr (.cells #[.string xn, .slice xa xargs.length xc, .int .i64 xt] 81) ▸ unhide HK2)
            clear m4 n4 hB4
            go_region_with (go_at_call 133; refine (Clone_any xn _ (by omega)).mono ?_; rintro r w5 ⟨rfl, hb5⟩; have k5 : Below w4.heap.size w4 w5 := (Below.refl _ w4).drew.trans hb5; have z5 := (unhide HE2 _ k5).1; have n5 := (unhide HE2 _ k5).2; have q0' := n5.cellAt (i := 0) rfl; have q1' := n5.cellAt (i := 1) rfl; have q2' := n5.cellAt (i := 2) rfl; have f0' := n5.2 0; have f1' := n5.2 1; have f2' := n5.2 2)
            all_goals (
              have N1R := hide n5
              have HBE := hide ((unhide HBB4).trans (k5.mono (unhide HBB4).size))
              have K5 := hide k5
              clear n5 hb5 k5
              go_wp2
              obtain ⟨F, hF⟩ : ∃ F, F = (((w5.setCell ⟨w.heap.size + 1, 0, none⟩ (.string xn)).setCell ⟨w.heap.size + 1, 1, none⟩ (.slice o2 xargs.length p2)).setCell ⟨w.heap.size + 1, 2, none⟩ (.int .i64 xt)) := ⟨_, rfl⟩
              have hn := (((unhide N1R).set 0 (.string xn) (by simp)).set 1 (.slice o2 xargs.length p2) (by simp)).set 2 (.int .i64 xt) (by simp)
              have hFB := (((Below.refl w.heap.size w5).setCell (p := ⟨w.heap.size + 1, 0, none⟩) (by simp) (.string xn)).setCell (p := ⟨w.heap.size + 1, 1, none⟩) (by simp) (.slice o2 xargs.length p2)).setCell (p := ⟨w.heap.size + 1, 2, none⟩) (by simp) (.int .i64 xt)
              have hFO : ∀ b, w.heap.size + 2 ≤ b → F.heap[b]? = w5.heap[b]? := fun b hb => by rw [hF, Below.heap_setCell _ _ _ _ (by simp; omega), Below.heap_setCell _ _ _ _ (by simp; omega), Below.heap_setCell _ _ _ _ (by simp; omega)]
              have hFS : F.heap.size = w5.heap.size := by rw [hF]; simp [World.setCell]
              rw [← hF] at hn hFB ⊢
              have g0 := hn.cellAt (i := 0) rfl
              have g1 := hn.cellAt (i := 1) rfl
              have g2 := hn.cellAt (i := 2) rfl
              refine bodyPost_ret (v := .tuple #[.agg #[Value.string xn, Value.slice o2 xargs.length p2, Value.int .i64 xt], .bool true]) (by simp [results, Tryz.results109, go_sem, g0, g1, g2]) rfl ?_
              rw [unhide HRR]
              refine ⟨.slice o2 xargs.length p2, rfl, ⟨o2, p2, rfl, ?_⟩, (unhide HBE).trans hFB⟩
              rcases unhide HK4 with h | ⟨b, h1, h2, h3, h4, h5⟩
              · exact .inl h
              · have hblk := (hFO b (by have := unhide HSZ; omega)).trans ((unhide K5).block b h3)
                exact .inr ⟨b, h1, by have := unhide HSZ; omega, by have := (unhide K5).size; omega, fun j hj => (World.cell?_of_block (w := w4) (a := ⟨b, j, none⟩) hblk).trans (h4 j hj), fun j => (World.frozen?_of_block (w := w4) (a := ⟨b, j, none⟩) hblk).trans (h5 j)⟩)
          | false =>
            have HNN := hide (unhide HNX ((unhide HIS).trans he))
            clear HX2 HFX HNX HN
            go_wp2
            go_roundw
            case rel => exact ⟨j + 1, by omega, by go_num, HNN, hide ((unhide HB).alloc (unhide HB).size _)⟩
            case measure => simp [intOf]; omega
        · have HRR : Hid (R = none) := hide (by rw [unhide HX2, find_none (fun q hq => unhide HN q hq (by omega))])
          have n1 := (unhide N1).below (unhide HBR) (by have := unhide HWS; omega)
          have q0 := n1.cellAt (i := 0) rfl
          have q1 := n1.cellAt (i := 1) rfl
          have q2 := n1.cellAt (i := 2) rfl
          have f0 := n1.2 0
          have f1 := n1.2 1
          have f2 := n1.2 2
          have N1R := hide n1
          have HBE := hide (unhide HWR)
          clear n1
          go_wp2
          obtain ⟨F, hF⟩ : ∃ F, F = (((wr.setCell ⟨w.heap.size + 1, 0, none⟩ (.string ⟨#[]⟩)).setCell ⟨w.heap.size + 1, 1, none⟩ (.slice none 0 0)).setCell ⟨w.heap.size + 1, 2, none⟩ (.int .i64 0)) := ⟨_, rfl⟩
          have hn := (((unhide N1R).set 0 (.string ⟨#[]⟩) (by simp)).set 1 (.slice none 0 0) (by simp)).set 2 (.int .i64 0) (by simp)
          have hFB := (((Below.refl w.heap.size wr).setCell (p := ⟨w.heap.size + 1, 0, none⟩) (by simp) (.string ⟨#[]⟩)).setCell (p := ⟨w.heap.size + 1, 1, none⟩) (by simp) (.slice none 0 0)).setCell (p := ⟨w.heap.size + 1, 2, none⟩) (by simp) (.int .i64 0)
          have hFO : ∀ b, w.heap.size + 2 ≤ b → F.heap[b]? = wr.heap[b]? := fun b hb => by rw [hF, Below.heap_setCell _ _ _ _ (by simp; omega), Below.heap_setCell _ _ _ _ (by simp; omega), Below.heap_setCell _ _ _ _ (by simp; omega)]
          have hFS : F.heap.size = wr.heap.size := by rw [hF]; simp [World.setCell]
          rw [← hF] at hn hFB ⊢
          have g0 := hn.cellAt (i := 0) rfl
          have g1 := hn.cellAt (i := 1) rfl
          have g2 := hn.cellAt (i := 2) rfl
          refine bodyPost_ret (v := .tuple #[.agg #[Value.string ⟨#[]⟩, Value.slice none 0 0, Value.int .i64 0], .bool false]) (by simp [results, Tryz.results109, go_sem, g0, g1, g2]) rfl ?_
          rw [unhide HRR]
          exact ⟨.slice none 0 0, rfl, ⟨none, 0, rfl, .inl rfl⟩, (unhide HBE).trans hFB⟩
  · rw [hpl]
    have HRR : Hid (R = none) := hide (by rw [unhide HX, hfi]; simp)
    clear HX hpl hfi HUS
    have n1 := (unhide N1).below (unhide HB2) (by have := unhide HWS; omega)
    have q0 := n1.cellAt (i := 0) rfl
    have q1 := n1.cellAt (i := 1) rfl
    have q2 := n1.cellAt (i := 2) rfl
    have f0 := n1.2 0
    have f1 := n1.2 1
    have f2 := n1.2 2
    have N1R := hide n1
    have HBE := hide (unhide HW2)
    clear n1
    go_wp2
    obtain ⟨F, hF⟩ : ∃ F, F = (((w2.setCell ⟨w.heap.size + 1, 0, none⟩ (.string ⟨#[]⟩)).setCell ⟨w.heap.size + 1, 1, none⟩ (.slice none 0 0)).setCell ⟨w.heap.size + 1, 2, none⟩ (.int .i64 0)) := ⟨_, rfl⟩
    have hn := (((unhide N1R).set 0 (.string ⟨#[]⟩) (by simp)).set 1 (.slice none 0 0) (by simp)).set 2 (.int .i64 0) (by simp)
    have hFB := (((Below.refl w.heap.size w2).setCell (p := ⟨w.heap.size + 1, 0, none⟩) (by simp) (.string ⟨#[]⟩)).setCell (p := ⟨w.heap.size + 1, 1, none⟩) (by simp) (.slice none 0 0)).setCell (p := ⟨w.heap.size + 1, 2, none⟩) (by simp) (.int .i64 0)
    have hFO : ∀ b, w.heap.size + 2 ≤ b → F.heap[b]? = w2.heap[b]? := fun b hb => by rw [hF, Below.heap_setCell _ _ _ _ (by simp; omega), Below.heap_setCell _ _ _ _ (by simp; omega), Below.heap_setCell _ _ _ _ (by simp; omega)]
    have hFS : F.heap.size = w2.heap.size := by rw [hF]; simp [World.setCell]
    rw [← hF] at hn hFB ⊢
    have g0 := hn.cellAt (i := 0) rfl
    have g1 := hn.cellAt (i := 1) rfl
    have g2 := hn.cellAt (i := 2) rfl
    refine bodyPost_ret (v := .tuple #[.agg #[Value.string ⟨#[]⟩, Value.slice none 0 0, Value.int .i64 0], .bool false]) (by simp [results, Tryz.results109, go_sem, g0, g1, g2]) rfl ?_
    rw [unhide HRR]
    exact ⟨.slice none 0 0, rfl, ⟨none, 0, rfl, .inl rfl⟩, (unhide HBE).trans hFB⟩
end Go.Proofs.YtgmohnbjfemebaaGreatDoor

namespace Go.Proofs.YtgmohnbjfemebaaGreatDoor
open Go.RowKit Go.PlainAid

set_option maxRecDepth 100000 in
set_option maxHeartbeats 4000000 in
theorem l3Of_any (lo h : Nat) (v : Value) (f : TF) (w : World) (hF : IsFun w lo w.heap.size h v f) (hl : f.args.length ≤ 1048576) :
    Calls Tryz.prog 119 #[v] w fun r w' => OwnSig w w.heap.size r (sigOf f) w' := by
  obtain ⟨i0, hi, hz0, hz1, hz2⟩ := info_parts intinfo
  obtain ⟨nm, pb, args, ty, body⟩ := f
  obtain ⟨aa, ca, b0, b1, b2, b3, b4, rfl, _, ha, _⟩ := hF
  dsimp only at ha hl
  show Calls Tryz.prog 119 #[.agg #[.string nm, .bool pb, .slice aa args.length ca, .int .i64 ty, b0, b1, b2, b3, b4]] w fun r w' => ∃ v : Value, r = .returned (.agg #[.string nm, v, .int .i64 ty]) ∧ OwnI w' w.heap.size w'.heap.size v (args.map TA.type) ∧ Below w.heap.size w w'
  have HA := hide (fun (W : World) (hb : Below w.heap.size w W) => ha.kept hb hb.size)
  clear ha
  have n0 : Blk (((w.alloc (.cells [Value.string nm, Value.bool pb, Value.slice aa args.length ca, Value.int .i64 ty, b0, b1, b2, b3, b4].toArray 108)).alloc (.cells [Value.string ⟨#[]⟩, Value.slice none 0 0, Value.int .i64 0].toArray 81)).alloc (.cells [Value.string nm, Value.slice none 0 0, Value.int .i64 ty].toArray 81)) w.heap.size [Value.string nm, Value.bool pb, Value.slice aa args.length ca, Value.int .i64 ty, b0, b1, b2, b3, b4] := ((Blk.new w [Value.string nm, Value.bool pb, Value.slice aa args.length ca, Value.int .i64 ty, b0, b1, b2, b3, b4] 108).old _ (by simp)).old _ (by simp only [alloc_size]; omega)
  have n1 : Blk (((w.alloc (.cells [Value.string nm, Value.bool pb, Value.slice aa args.length ca, Value.int .i64 ty, b0, b1, b2, b3, b4].toArray 108)).alloc (.cells [Value.string ⟨#[]⟩, Value.slice none 0 0, Value.int .i64 0].toArray 81)).alloc (.cells [Value.string nm, Value.slice none 0 0, Value.int .i64 ty].toArray 81)) (w.heap.size + 1) [Value.string ⟨#[]⟩, Value.slice none 0 0, Value.int .i64 0] := by
    have := (Blk.new (w.alloc (.cells [Value.string nm, Value.bool pb, Value.slice aa args.length ca, Value.int .i64 ty, b0, b1, b2, b3, b4].toArray 108)) [Value.string ⟨#[]⟩, Value.slice none 0 0, Value.int .i64 0] 81).old (.cells [Value.string nm, Value.slice none 0 0, Value.int .i64 ty].toArray 81) (by simp only [alloc_size]; omega)
    rw [alloc_size] at this
    exact this
  have n2 : Blk (((w.alloc (.cells [Value.string nm, Value.bool pb, Value.slice aa args.length ca, Value.int .i64 ty, b0, b1, b2, b3, b4].toArray 108)).alloc (.cells [Value.string ⟨#[]⟩, Value.slice none 0 0, Value.int .i64 0].toArray 81)).alloc (.cells [Value.string nm, Value.slice none 0 0, Value.int .i64 ty].toArray 81)) (w.heap.size + 1 + 1) [Value.string nm, Value.slice none 0 0, Value.int .i64 ty] := by
    have := Blk.new ((w.alloc (.cells [Value.string nm, Value.bool pb, Value.slice aa args.length ca, Value.int .i64 ty, b0, b1, b2, b3, b4].toArray 108)).alloc (.cells [Value.string ⟨#[]⟩, Value.slice none 0 0, Value.int .i64 0].toArray 81)) [Value.string nm, Value.slice none 0 0, Value.int .i64 ty] 81
    rw [alloc_size, alloc_size] at this
    exact this
  have hW : Below w.heap.size w (((w.alloc (.cells [Value.string nm, Value.bool pb, Value.slice aa args.length ca, Value.int .i64 ty, b0, b1, b2, b3, b4].toArray 108)).alloc (.cells [Value.string ⟨#[]⟩, Value.slice none 0 0, Value.int .i64 0].toArray 81)).alloc (.cells [Value.string nm, Value.slice none 0 0, Value.int .i64 ty].toArray 81)) := (((Below.refl _ w).alloc (Nat.le_refl _) _).alloc (by simp) _).alloc (by simp; omega) _
  go_enter Tryz.func119, Tryz.ntmps119
  go_wp2
  obtain ⟨W, hWW⟩ : ∃ W, W = (((w.alloc (.cells [Value.string nm, Value.bool pb, Value.slice aa args.length ca, Value.int .i64 ty, b0, b1, b2, b3, b4].toArray 108)).alloc (.cells [Value.string ⟨#[]⟩, Value.slice none 0 0, Value.int .i64 0].toArray 81)).alloc (.cells [Value.string nm, Value.slice none 0 0, Value.int .i64 ty].toArray 81)) := ⟨_, rfl⟩
  have hWs : W.heap.size = w.heap.size + 1 + 1 + 1 := by rw [hWW]; simp
  rw [← hWW] at n0 n1 n2 hW ⊢
  clear hWW
  have N0 := hide n0
  have N1 := hide n1
  have N2 := hide n2
  have HW := hide hW
  have HWS := hide hWs
  clear n0 n1 n2 hW hWs
  go_loopw [4] (fun i wr => ∃ (k : Nat) (v : Value), k ≤ args.length ∧ i = .int .i64 k ∧ Hid (wr.ownsRow W.heap.size 3 1 v k (((args.take k).map TA.type).map (Value.int .i64))) ∧ Hid (Blk wr (w.heap.size + 1 + 1) [.string nm, v, .int .i64 ty]) ∧ Hid (Below (w.heap.size + 1 + 1) W wr)) (fun i _ => args.length - (intOf i).toNat)
  case atStart => exact ⟨0, .slice none 0 0, Nat.zero_le _, rfl, hide (World.ownsRow_nil _ _ _ _), N2, hide (Below.refl _ _)⟩
  case round =>
    obtain ⟨k, v, hk, rfl, HROW, HBLK, HB⟩ := hrel
    obtain ⟨vs, cp, rfl⟩ := own_sliceN (unhide HROW)
    have HWR := hide ((unhide HW).trans ((unhide HB).mono (by omega)))
    have n0 := (unhide N0).below (unhide HB) (by omega)
    have p2 := n0.cellAt (i := 2) rfl
    clear n0
    have hsz : w.heap.size + 1 + 1 + 1 ≤ wr.heap.size := by have := unhide HWS; have := (unhide HB).size; omega
    have HSZ := hide hsz
    clear hsz
    by_cases hp : k < args.length
    · rcases unhide HA _ (unhide HWR) with hq | ⟨b, off, rfl, hbl, hbn, hcs⟩
      · rw [hq] at hp; simp at hp
      obtain ⟨c0, c1, d0, d1, hr⟩ := hcs k hp
      have htk : args.take (k + 1) = args.take k ++ [args[k]] := List.take_succ_eq_append_getElem hp
      obtain ⟨x, hx⟩ : ∃ x, args[k]'hp = x := ⟨_, rfl⟩
      rw [hx] at hr htk
      have hv := hr.1
      simp only [Value.agg.injEq, Array.mk.injEq, List.cons.injEq, and_true] at hv
      obtain ⟨rfl, rfl⟩ := hv
      obtain ⟨xn, xt⟩ := x
      dsimp only at d0 d1
      have HTK := hide htk
      have e1 := (unhide HBLK).cellAt (i := 1) rfl
      have hne : w.heap.size + 1 + 1 ≠ wr.heap.size := by have := unhide HSZ; omega
      have hne0 : w.heap.size ≠ wr.heap.size := by have := unhide HSZ; omega
      have hneb : b ≠ wr.heap.size := by omega
      have hlt : w.heap.size + 1 + 1 < wr.heap.size := by have := unhide HSZ; omega
      have hlt0 : w.heap.size < wr.heap.size := by have := unhide HSZ; omega
      clear hcs hr hx htk d0
      go_wp2_with fail
      go_region_law (refine step_append_lies _ rfl (.tmp 18) (.tmp 25) 79 rfl W.heap.size 3 i0 (.int .i64 0) 1 8 Tryz.underlying79 hi hz0 hz1 hz2 rfl (by decide) (.slice vs k cp) k (((args.take k).map TA.type).map (Value.int .i64)) rfl ((unhide HROW).alloc _) ⟨wr.heap.size, 0, none⟩ 1 1 [.int .i64 xt] rfl rfl (one_newN wr (.int .i64 xt) 3) (by simp [Value.oneCell']) (by decide) (by unfold maxLen; omega) (by omega) (by have := (unhide HB).size; simp; omega) (wr.heap.size + 1) (by simp) ?_; intro g4 c4 w4 hown4 hgrow4 hat4 hlt4; have hb3 : Below W.heap.size (wr.drew.alloc (.cells #[.int .i64 xt] 3)) w4 := ((Below.refl _ _).grown hgrow4 (by have := (unhide HB).size; simp; omega) (fun q hq => (((unhide HROW).lt q hq)).1)); have n3 : Blk w4 (w.heap.size + 1 + 1) [.string nm, .slice vs k cp, .int .i64 ty] := ((((unhide HBLK).below (Below.refl wr.heap.size wr).drew (by have := unhide HSZ; omega)).old _ (by have := unhide HSZ; simp; omega))).below hb3 (by have := unhide HWS; omega); have g1 := n3.cellAt (i := 1) rfl; have f1 := n3.2 1; have NN3 := hide n3; have HB3 := hide hb3; have HO3 := hide hown4; clear n3 hb3 hown4 hgrow4 hat4 hlt4)
      all_goals (
        go_wp2
        go_roundw
        case rel =>
          refine ⟨k + 1, .slice (some ⟨g4, 0, none⟩) (k + 1) c4, by omega, by go_num, hide ?_, hide ((unhide NN3).set 1 (.slice (some ⟨g4, 0, none⟩) (k + 1) c4) (by simp)), hide ?_⟩
          · rw [unhide HTK, List.map_append, List.map_append]
            exact own_setN (unhide HO3) (by have := unhide HWS; omega)
          · refine Below.setCell ?_ (p := ⟨w.heap.size + 1 + 1, 1, none⟩) (Nat.le_refl _) _
            exact (unhide HB).trans ((((Below.refl _ wr).drew.alloc (by have := unhide HSZ; simp; omega) _)).trans ((unhide HB3).mono (by have := unhide HWS; omega)))
        case measure => simp [intOf]; omega)
    · have hek : k = args.length := by omega
      subst hek
      have HR := unhide HROW
      rw [List.take_of_length_le (Nat.le_refl _)] at HR
      have HOI := hide (own_of_row HR)
      clear HR
      have e0 := (unhide HBLK).cellAt (i := 0) rfl
      have e1 := (unhide HBLK).cellAt (i := 1) rfl
      have e2 := (unhide HBLK).cellAt (i := 2) rfl
      have n1 := (unhide N1).below (unhide HB) (by omega)
      have q0 := n1.cellAt (i := 0) rfl
      have q1 := n1.cellAt (i := 1) rfl
      have q2 := n1.cellAt (i := 2) rfl
      have f0 := n1.2 0
      have f1 := n1.2 1
      have f2 := n1.2 2
      have N1R := hide n1
      clear n1
      go_wp2
      obtain ⟨F, hF⟩ : ∃ F, F = (((wr.setCell ⟨w.heap.size + 1, 0, none⟩ (.string nm)).setCell ⟨w.heap.size + 1, 1, none⟩ (.slice vs args.length cp)).setCell ⟨w.heap.size + 1, 2, none⟩ (.int .i64 ty)) := ⟨_, rfl⟩
      have hn := (((unhide N1R).set 0 (.string nm) (by simp)).set 1 (.slice vs args.length cp) (by simp)).set 2 (.int .i64 ty) (by simp)
      have hFB := (((Below.refl w.heap.size wr).setCell (p := ⟨w.heap.size + 1, 0, none⟩) (by simp) (.string nm)).setCell (p := ⟨w.heap.size + 1, 1, none⟩) (by simp) (.slice vs args.length cp)).setCell (p := ⟨w.heap.size + 1, 2, none⟩) (by simp) (.int .i64 ty)
      have hFO : ∀ b, w.heap.size + 2 ≤ b → F.heap[b]? = wr.heap[b]? := fun b hb => by rw [hF, Below.heap_setCell _ _ _ _ (by simp; omega), Below.heap_setCell _ _ _ _ (by simp; omega), Below.heap_setCell _ _ _ _ (by simp; omega)]
      have hFS : F.heap.size = wr.heap.size := by rw [hF]; simp [World.setCell]
      rw [← hF] at hn hFB ⊢
      have g0 := hn.cellAt (i := 0) rfl
      have g1 := hn.cellAt (i := 1) rfl
      have g2 := hn.cellAt (i := 2) rfl
      refine bodyPost_ret (v := .agg #[Value.string nm, Value.slice vs args.length cp, Value.int .i64 ty]) (by simp [results, Tryz.results119, go_sem, g0, g1, g2]) rfl ?_
      refine ⟨_, rfl, (unhide HOI).same (fun b hb hbn => ⟨fun j => World.cell?_of_block (w := wr) (a := ⟨b, j, none⟩) (hFO b (by have := unhide HWS; omega)), fun j => World.frozen?_of_block (w := wr) (a := ⟨b, j, none⟩) (hFO b (by have := unhide HWS; omega))⟩) (by have := unhide HWS; omega) (by omega), (unhide HWR).trans hFB⟩
end Go.Proofs.YtgmohnbjfemebaaGreatDoor

namespace Go.Proofs.YtgmohnbjfemebaaGreatDoor
open Go.RowKit Go.PlainAid

set_option maxRecDepth 100000 in
set_option maxHeartbeats 4000000 in
theorem TypeFindS_own (lo h : Nat) (v : Value) (m : TM) (a : Option Addr) (cap : Nat) (ys : List TY) (md nm : ByteArray) (w : World) (hM : IsMod w lo w.heap.size h v m) (hwt : ∀ f ∈ m.funs, f.args.length ≤ 1048576 ∧ f.name.size ≤ 1048576) (hmd : (md.toList == []) = true) :
    Calls Tryz.prog 90 #[v, .slice a ys.length cap, .string md, .string nm] w fun r w' => FPost w (findSig m ys md nm) r w' := by
  have HX : Hid (findSig m ys md nm = (m.funs.find? (isF nm)).map sigOf) := hide (by unfold findSig; rw [if_pos hmd])
  generalize findSig m ys md nm = R at HX ⊢
  obtain ⟨us, fs, mn⟩ := m
  obtain ⟨a1, a2, a3, k1, k2, k3, rfl, ⟨_, hz2, _, _, _⟩, _, q2, _⟩ := hM
  dsimp only at hz2 q2 hwt HX
  have n0 : Blk ((w.alloc (.cells [Value.slice a1 us.length k1, Value.slice a2 fs.length k2, Value.slice a3 mn.length k3].toArray 27)).alloc (.cells [Value.string ⟨#[]⟩, Value.slice none 0 0, Value.int .i64 0].toArray 81)) w.heap.size [Value.slice a1 us.length k1, Value.slice a2 fs.length k2, Value.slice a3 mn.length k3] := (Blk.new w [Value.slice a1 us.length k1, Value.slice a2 fs.length k2, Value.slice a3 mn.length k3] 27).old _ (by simp)
  have n1 : Blk ((w.alloc (.cells [Value.slice a1 us.length k1, Value.slice a2 fs.length k2, Value.slice a3 mn.length k3].toArray 27)).alloc (.cells [Value.string ⟨#[]⟩, Value.slice none 0 0, Value.int .i64 0].toArray 81)) (w.heap.size + 1) [Value.string ⟨#[]⟩, Value.slice none 0 0, Value.int .i64 0] := by
    have := Blk.new (w.alloc (.cells [Value.slice a1 us.length k1, Value.slice a2 fs.length k2, Value.slice a3 mn.length k3].toArray 27)) [Value.string ⟨#[]⟩, Value.slice none 0 0, Value.int .i64 0] 81
    rw [alloc_size] at this
    exact this
  have hW : Below w.heap.size w ((w.alloc (.cells [Value.slice a1 us.length k1, Value.slice a2 fs.length k2, Value.slice a3 mn.length k3].toArray 27)).alloc (.cells [Value.string ⟨#[]⟩, Value.slice none 0 0, Value.int .i64 0].toArray 81)) := ((Below.refl _ w).alloc (Nat.le_refl _) _).alloc (by simp) _
  have HFS := hide (fun (W : World) (hb : Below w.heap.size w W) => q2.kept hb hb.size)
  unfold maxLen at hz2
  clear q2
  go_enter Tryz.func90, Tryz.ntmps90
  go_wp2
  obtain ⟨W, hWW⟩ : ∃ W, W = ((w.alloc (.cells [Value.slice a1 us.length k1, Value.slice a2 fs.length k2, Value.slice a3 mn.length k3].toArray 27)).alloc (.cells [Value.string ⟨#[]⟩, Value.slice none 0 0, Value.int .i64 0].toArray 81)) := ⟨_, rfl⟩
  have hWs : W.heap.size = w.heap.size + 1 + 1 := by rw [hWW]; simp
  rw [← hWW] at n0 n1 hW ⊢
  clear hWW
  have p1 := n0.cellAt (i := 1) rfl
  have N1 := hide n1
  have HW := hide hW
  have HWS := hide hWs
  clear n0 n1 hW hWs
  go_loop [10] (fun i => ∃ k : Nat, k ≤ fs.length ∧ i = .int .i64 k ∧ Hid (∀ j (hj : j < fs.length), j < k → isF nm fs[j] = false)) (fun i => fs.length - (intOf i).toNat)
  case atStart => exact ⟨0, Nat.zero_le _, rfl, hide (fun j _ hj => absurd hj (Nat.not_lt_zero _))⟩
  case round =>
    obtain ⟨k, hk, rfl, HN⟩ := hrel
    by_cases hp : k < fs.length
    · rcases unhide HFS _ (unhide HW) with hq | ⟨b, off, rfl, hbl, hbn, hcs⟩
      · rw [hq] at hp; simp at hp
      obtain ⟨c0, c1, c2, c3, c4, c5, c6, c7, c8, d0, d1, d2, d3, d4, d5, d6, d7, d8, hr⟩ := hcs k hp
      have hwk := hwt _ (List.getElem_mem hp)
      have HNX := hide (fun (he : isF nm (fs[k]'hp) = false) => no_next hp (unhide HN) he)
      have HFX := hide (fun (he : isF nm (fs[k]'hp) = true) => find_at hp (unhide HN) he)
      obtain ⟨x, hx⟩ : ∃ x, fs[k]'hp = x := ⟨_, rfl⟩
      rw [hx] at hr hwk HNX HFX
      have HIS : Hid (isF nm x = (x.name.toList == nm.toList)) := hide rfl
      obtain ⟨xs, xp, xa, xl, xc, xt, xk, xm, xn, xd, ya, yl, yc, rfl, rfl, rfl, rfl, rfl, rfl, rfl, rfl, rfl⟩ := IsFun.form h hr
      have hxn : x.name = xs := by
        obtain ⟨_, _, _, _, _, _, _, hv, _⟩ := hr
        simp only [Value.agg.injEq, Array.mk.injEq, List.cons.injEq, Value.string.injEq] at hv
        exact hv.1.symm
      rw [hxn] at HIS
      have HFO := hide (l3Of_any lo h _ x W hr hwk.1)
      clear hcs hr hx hwk
      cases he : (xs.toList == nm.toList) with
      | true =>
        have HRR : Hid (R = some (sigOf x)) := hide (by rw [unhide HX, unhide HFX ((unhide HIS).trans he)]; rfl)
        clear HX HFX HNX HN
        go_wp2_with fail
        refine (unhide HFO).mono ?_
        rintro r w2 ⟨v2, rfl, ho2, hb2⟩
        obtain ⟨o2, p2, rfl, hk2⟩ := ho2
        have n2 := (unhide N1).below hb2 (by have := unhide HWS; omega)
        have hB2 := (unhide HW).trans (hb2.mono (unhide HW).size)
        have q0 := n2.cellAt (i := 0) rfl
        have q1 := n2.cellAt (i := 1) rfl
        have q2 := n2.cellAt (i := 2) rfl
        have f0 := n2.2 0
        have f1 := n2.2 1
        have f2 := n2.2 2
        have N1R := hide n2
        have HB2 := hide hB2
        have HK2 := hide hk2
        obtain ⟨sn, hsn⟩ : ∃ sn, (sigOf x).name = sn := ⟨_, rfl⟩
        obtain ⟨st, hst⟩ : ∃ st, (sigOf x).type = st := ⟨_, rfl⟩
        obtain ⟨sa, hsa⟩ : ∃ sa, (sigOf x).args = sa := ⟨_, rfl⟩
        rw [hsn, hst, hsa]
        rw [hsa] at HK2
        have HSS := hide (And.intro hsn (And.intro hst hsa))
        clear n2 hb2 hB2 hk2 hsn hst hsa HFO d0 d1 d2 d3 d4 d5 d6 d7 d8
        go_wp2
        obtain ⟨F, hF⟩ : ∃ F, F = (((w2.setCell ⟨w.heap.size + 1, 0, none⟩ (.string sn)).setCell ⟨w.heap.size + 1, 1, none⟩ (.slice o2 sa.length p2)).setCell ⟨w.heap.size + 1, 2, none⟩ (.int .i64 st)) := ⟨_, rfl⟩
        have hn := (((unhide N1R).set 0 (.string sn) (by simp)).set 1 (.slice o2 sa.length p2) (by simp)).set 2 (.int .i64 st) (by simp)
        have hFB := (((Below.refl w.heap.size w2).setCell (p := ⟨w.heap.size + 1, 0, none⟩) (by simp) (.string sn)).setCell (p := ⟨w.heap.size + 1, 1, none⟩) (by simp) (.slice o2 sa.length p2)).setCell (p := ⟨w.heap.size + 1, 2, none⟩) (by simp) (.int .i64 st)
        have hFO : ∀ b, w.heap.size + 2 ≤ b → F.heap[b]? = w2.heap[b]? := fun b hb => by rw [hF, Below.heap_setCell _ _ _ _ (by simp; omega), Below.heap_setCell _ _ _ _ (by simp; omega), Below.heap_setCell _ _ _ _ (by simp; omega)]
        have hFS : F.heap.size = w2.heap.size := by rw [hF]; simp [World.setCell]
        rw [← hF] at hn hFB ⊢
        have g0 := hn.cellAt (i := 0) rfl
        have g1 := hn.cellAt (i := 1) rfl
        have g2 := hn.cellAt (i := 2) rfl
        refine bodyPost_ret (v := .tuple #[.agg #[Value.string sn, Value.slice o2 sa.length p2, Value.int .i64 st], .bool true]) (by simp [results, Tryz.results90, go_sem, g0, g1, g2]) rfl ?_
        obtain ⟨e1, e2, e3⟩ := unhide HSS
        rw [unhide HRR]
        refine ⟨.slice o2 sa.length p2, by rw [← e1, ← e2]; rfl, ?_, (unhide HB2).trans hFB⟩
        show OwnI F w.heap.size F.heap.size _ (sigOf x).args
        rw [e3]
        refine ⟨o2, p2, rfl, ?_⟩
        rcases unhide HK2 with h | ⟨b, h1, h2, h3, h4, h5⟩
        · exact .inl h
        · have hblk := hFO b (by have := unhide HWS; omega)
          exact .inr ⟨b, h1, by have := unhide HWS; omega, by omega, fun j hj => (World.cell?_of_block (w := w2) (a := ⟨b, j, none⟩) hblk).trans (h4 j hj), fun j => (World.frozen?_of_block (w := w2) (a := ⟨b, j, none⟩) hblk).trans (h5 j)⟩
      | false =>
        have HNN := hide (unhide HNX ((unhide HIS).trans he))
        clear HX HFX HNX HN HFO
        go_wp2
        go_round
        case rel => exact ⟨k + 1, by omega, by go_num, HNN⟩
        case measure => simp [intOf]; omega
    · have HRR : Hid (R = none) := hide (by rw [unhide HX, find_none (fun j hj => unhide HN j hj (by omega))]; rfl)
      clear HX HN
      have n1 := unhide N1
      have q0 := n1.cellAt (i := 0) rfl
      have q1 := n1.cellAt (i := 1) rfl
      have q2 := n1.cellAt (i := 2) rfl
      have f0 := n1.2 0
      have f1 := n1.2 1
      have f2 := n1.2 2
      have N1R := hide n1
      have HBE := hide (unhide HW)
      clear n1
      go_wp2
      obtain ⟨F, hF⟩ : ∃ F, F = (((W.setCell ⟨w.heap.size + 1, 0, none⟩ (.string ⟨#[]⟩)).setCell ⟨w.heap.size + 1, 1, none⟩ (.slice none 0 0)).setCell ⟨w.heap.size + 1, 2, none⟩ (.int .i64 0)) := ⟨_, rfl⟩
      have hn := (((unhide N1R).set 0 (.string ⟨#[]⟩) (by simp)).set 1 (.slice none 0 0) (by simp)).set 2 (.int .i64 0) (by simp)
      have hFB := (((Below.refl w.heap.size W).setCell (p := ⟨w.heap.size + 1, 0, none⟩) (by simp) (.string ⟨#[]⟩)).setCell (p := ⟨w.heap.size + 1, 1, none⟩) (by simp) (.slice none 0 0)).setCell (p := ⟨w.heap.size + 1, 2, none⟩) (by simp) (.int .i64 0)
      have hFO : ∀ b, w.heap.size + 2 ≤ b → F.heap[b]? = W.heap[b]? := fun b hb => by rw [hF, Below.heap_setCell _ _ _ _ (by simp; omega), Below.heap_setCell _ _ _ _ (by simp; omega), Below.heap_setCell _ _ _ _ (by simp; omega)]
      have hFS : F.heap.size = W.heap.size := by rw [hF]; simp [World.setCell]
      rw [← hF] at hn hFB ⊢
      have g0 := hn.cellAt (i := 0) rfl
      have g1 := hn.cellAt (i := 1) rfl
      have g2 := hn.cellAt (i := 2) rfl
      refine bodyPost_ret (v := .tuple #[.agg #[Value.string ⟨#[]⟩, Value.slice none 0 0, Value.int .i64 0], .bool false]) (by simp [results, Tryz.results90, go_sem, g0, g1, g2]) rfl ?_
      rw [unhide HRR]
      exact ⟨.slice none 0 0, rfl, ⟨none, 0, rfl, .inl rfl⟩, (unhide HBE).trans hFB⟩

set_option maxRecDepth 100000 in
set_option maxHeartbeats 8000000 in
theorem TypeFindS_other (lo h lo2 : Nat) (v : Value) (m : TM) (a : Option Addr) (cap : Nat) (ys : List TY) (md nm : ByteArray) (w : World) (hM : IsMod w lo w.heap.size h v m)
    (hY : IsFaces (IsFace w lo2 w.heap.size) w lo2 w.heap.size a ys) (hyl : ys.length ≤ maxLen) (hys : ∀ y ∈ ys, ∀ s ∈ y.sigs, s.args.length ≤ 1048576 ∧ s.name.size ≤ 1048576) (hmd : (md.toList == []) = false) :
    Calls Tryz.prog 90 #[v, .slice a ys.length cap, .string md, .string nm] w fun r w' => FPost w (findSig m ys md nm) r w' := by
  have HX : Hid (findSig m ys md nm = if hasB m.uses md = true then (ys.find? (isMod md)).bind (fun y => y.sigs.find? (isS nm)) else none) := hide (by unfold findSig; rw [hmd]; rfl)
  generalize findSig m ys md nm = R at HX ⊢
  obtain ⟨us, fs, mn⟩ := m
  obtain ⟨a1, a2, a3, k1, k2, k3, rfl, ⟨hz1, _, _, _, _⟩, q1, _, _⟩ := hM
  dsimp only at hz1 q1 HX
  have n0 : Blk ((w.alloc (.cells [Value.slice a1 us.length k1, Value.slice a2 fs.length k2, Value.slice a3 mn.length k3].toArray 27)).alloc (.cells [Value.string ⟨#[]⟩, Value.slice none 0 0, Value.int .i64 0].toArray 81)) w.heap.size [Value.slice a1 us.length k1, Value.slice a2 fs.length k2, Value.slice a3 mn.length k3] := (Blk.new w [Value.slice a1 us.length k1, Value.slice a2 fs.length k2, Value.slice a3 mn.length k3] 27).old _ (by simp)
  have n1 : Blk ((w.alloc (.cells [Value.slice a1 us.length k1, Value.slice a2 fs.length k2, Value.slice a3 mn.length k3].toArray 27)).alloc (.cells [Value.string ⟨#[]⟩, Value.slice none 0 0, Value.int .i64 0].toArray 81)) (w.heap.size + 1) [Value.string ⟨#[]⟩, Value.slice none 0 0, Value.int .i64 0] := by
    have := Blk.new (w.alloc (.cells [Value.slice a1 us.length k1, Value.slice a2 fs.length k2, Value.slice a3 mn.length k3].toArray 27)) [Value.string ⟨#[]⟩, Value.slice none 0 0, Value.int .i64 0] 81
    rw [alloc_size] at this
    exact this
  have hW : Below w.heap.size w ((w.alloc (.cells [Value.slice a1 us.length k1, Value.slice a2 fs.length k2, Value.slice a3 mn.length k3].toArray 27)).alloc (.cells [Value.string ⟨#[]⟩, Value.slice none 0 0, Value.int .i64 0].toArray 81)) := ((Below.refl _ w).alloc (Nat.le_refl _) _).alloc (by simp) _
  have HUS := hide (fun (W : World) (hb : Below w.heap.size w W) => q1.kept hb hb.size)
  have HYS := hide (fun (W : World) (hb : Below w.heap.size w W) => hY.kept hb hb.size)
  have HSS := hide hys
  unfold maxLen at hyl hz1
  clear q1 hY hys
  go_enter Tryz.func90, Tryz.ntmps90
  go_wp2
  obtain ⟨W, hWW⟩ : ∃ W, W = ((w.alloc (.cells [Value.slice a1 us.length k1, Value.slice a2 fs.length k2, Value.slice a3 mn.length k3].toArray 27)).alloc (.cells [Value.string ⟨#[]⟩, Value.slice none 0 0, Value.int .i64 0].toArray 81)) := ⟨_, rfl⟩
  have hWs : W.heap.size = w.heap.size + 1 + 1 := by rw [hWW]; simp
  rw [← hWW] at n0 n1 hW ⊢
  clear hWW
  have p0 := n0.cellAt (i := 0) rfl
  have N1 := hide n1
  have HW := hide hW
  have HWS := hide hWs
  clear n0 n1 hW hWs
  go_loop [11, 12] (fun u i => ∃ k : Nat, k ≤ us.length ∧ i = .int .i64 k ∧ u = .bool (hasB (us.take k) md)) (fun _ i => us.length - (intOf i).toNat)
  case atStart => exact ⟨0, Nat.zero_le _, rfl, rfl⟩
  case round =>
    obtain ⟨k, hk, rfl, rfl⟩ := hrel
    by_cases hp : k < us.length
    · rcases unhide HUS _ (unhide HW) with hq | ⟨b, off, rfl, hbl, hbn, hc⟩
      · rw [hq] at hp; simp at hp
      have hck := hc k hp
      have HST := hide (has_take us md k hp)
      obtain ⟨y, hy⟩ : ∃ y, us[k]'hp = y := ⟨_, rfl⟩
      rw [hy] at hck HST
      clear hc hy
      cases hu : hasB (us.take k) md with
      | true =>
        have HE : Hid (true = hasB (us.take (k + 1)) md) := hide (by rw [unhide HST, hu]; rfl)
        go_wp2
        go_round
        case rel => exact ⟨k + 1, by omega, by go_num, by rw [← unhide HE]⟩
        case measure => simp [intOf]; omega
      | false =>
        cases he : (y.toList == md.toList) with
        | true =>
          have HE : Hid (hasB (us.take (k + 1)) md = true) := hide (by rw [unhide HST, hu, he]; rfl)
          go_wp2
          go_round
          case rel => exact ⟨k + 1, by omega, by go_num, by rw [unhide HE]⟩
          case measure => simp [intOf]; omega
        | false =>
          have HE : Hid (hasB (us.take (k + 1)) md = false) := hide (by rw [unhide HST, hu, he]; rfl)
          go_wp2
          go_round
          case rel => exact ⟨k + 1, by omega, by go_num, by rw [unhide HE]⟩
          case measure => simp [intOf]; omega
    · have hek : us.take k = us := List.take_of_length_le (by omega)
      rw [hek]
      clear hek
      cases hu : hasB us md with
      | false =>
        have HRR : Hid (R = none) := hide (by rw [unhide HX, hu]; rfl)
        clear HX hu
        go_wp2
        go_loop [13] (fun i => i = .int .i64 0) (fun _ => 0)
        case atStart => rfl
        case round =>
          obtain rfl := hrel
          by_cases hy0 : 0 < ys.length
          all_goals
            have n1 := unhide N1
            have q0 := n1.cellAt (i := 0) rfl
            have q1 := n1.cellAt (i := 1) rfl
            have q2 := n1.cellAt (i := 2) rfl
            have f0 := n1.2 0
            have f1 := n1.2 1
            have f2 := n1.2 2
            have N1R := hide n1
            have HBE := hide (unhide HW)
            clear n1
            go_wp2
            obtain ⟨F, hF⟩ : ∃ F, F = (((W.setCell ⟨w.heap.size + 1, 0, none⟩ (.string ⟨#[]⟩)).setCell ⟨w.heap.size + 1, 1, none⟩ (.slice none 0 0)).setCell ⟨w.heap.size + 1, 2, none⟩ (.int .i64 0)) := ⟨_, rfl⟩
            have hn := (((unhide N1R).set 0 (.string ⟨#[]⟩) (by simp)).set 1 (.slice none 0 0) (by simp)).set 2 (.int .i64 0) (by simp)
            have hFB := (((Below.refl w.heap.size W).setCell (p := ⟨w.heap.size + 1, 0, none⟩) (by simp) (.string ⟨#[]⟩)).setCell (p := ⟨w.heap.size + 1, 1, none⟩) (by simp) (.slice none 0 0)).setCell (p := ⟨w.heap.size + 1, 2, none⟩) (by simp) (.int .i64 0)
            have hFO : ∀ b, w.heap.size + 2 ≤ b → F.heap[b]? = W.heap[b]? := fun b hb => by rw [hF, Below.heap_setCell _ _ _ _ (by simp; omega), Below.heap_setCell _ _ _ _ (by simp; omega), Below.heap_setCell _ _ _ _ (by simp; omega)]
            have hFS : F.heap.size = W.heap.size := by rw [hF]; simp [World.setCell]
            rw [← hF] at hn hFB ⊢
            have g0 := hn.cellAt (i := 0) rfl
            have g1 := hn.cellAt (i := 1) rfl
            have g2 := hn.cellAt (i := 2) rfl
            refine bodyPost_ret (v := .tuple #[.agg #[Value.string ⟨#[]⟩, Value.slice none 0 0, Value.int .i64 0], .bool false]) (by simp [results, Tryz.results90, go_sem, g0, g1, g2]) rfl ?_
            rw [unhide HRR]
            exact ⟨.slice none 0 0, rfl, ⟨none, 0, rfl, .inl rfl⟩, (unhide HBE).trans hFB⟩
      | true =>
        have HX2 : Hid (R = (ys.find? (isMod md)).bind (fun y => y.sigs.find? (isS nm))) := hide (by rw [unhide HX, hu]; rfl)
        clear HX hu
        go_wp2
        go_loop [13, 14] (fun i _ => ∃ k : Nat, k ≤ ys.length ∧ i = .int .i64 k ∧ Hid (∀ j (hj : j < ys.length), j < k → isMod md ys[j] = false)) (fun i _ => ys.length - (intOf i).toNat)
        case atStart => exact ⟨0, Nat.zero_le _, rfl, hide (fun j _ hj => absurd hj (Nat.not_lt_zero _))⟩
        case round =>
          obtain ⟨k, hk, rfl, HN⟩ := hrel
          by_cases hp : k < ys.length
          · rcases unhide HYS _ (unhide HW) with hq | ⟨b, off, rfl, hbl, hbn, hcs⟩
            · rw [hq] at hp; simp at hp
            obtain ⟨c0, c1, d0, d1, hr⟩ := hcs k hp
            have hsk := unhide HSS _ (List.getElem_mem hp)
            have HNX := hide (fun (he : isMod md (ys[k]'hp) = false) => no_next hp (unhide HN) he)
            have HFX := hide (fun (he : isMod md (ys[k]'hp) = true) => find_at hp (unhide HN) he)
            obtain ⟨y, hy⟩ : ∃ y, ys[k]'hp = y := ⟨_, rfl⟩
            rw [hy] at hr hsk HNX HFX
            obtain ⟨ym, sigs⟩ := y
            have HIS : Hid (isMod md ⟨ym, sigs⟩ = (ym.toList == md.toList)) := hide rfl
            obtain ⟨sa, sc, hv, ⟨_, hsl⟩, hS⟩ := hr
            simp only [Value.agg.injEq, Array.mk.injEq, List.cons.injEq, and_true] at hv
            obtain ⟨rfl, rfl⟩ := hv
            dsimp only at hsk hS hsl d0 d1
            have HSG := hide hS
            have HSK := hide hsk
            unfold maxLen at hsl
            clear hcs hy hS hsk
            cases he : (ym.toList == md.toList) with
            | false =>
              have HNN := hide (unhide HNX ((unhide HIS).trans he))
              clear HX2 HFX HNX HN
              go_wp2
              go_round
              case rel => exact ⟨k + 1, by omega, by go_num, HNN⟩
              case measure => simp [intOf]; omega
            | true =>
              have HX3 : Hid (R = sigs.find? (isS nm)) := hide (by rw [unhide HX2, unhide HFX ((unhide HIS).trans he)]; rfl)
              clear HX2 HFX HNX HN
              go_wp2
              go_loop [14] (fun i => ∃ j : Nat, j ≤ sigs.length ∧ i = .int .i64 j ∧ Hid (∀ q (hq : q < sigs.length), q < j → isS nm sigs[q] = false)) (fun i => sigs.length - (intOf i).toNat)
              case atStart => exact ⟨0, Nat.zero_le _, rfl, hide (fun j _ hj => absurd hj (Nat.not_lt_zero _))⟩
              case round =>
                obtain ⟨j, hj, rfl, HN⟩ := hrel
                by_cases hpj : j < sigs.length
                · rcases unhide HSG with hq | ⟨b', off', rfl, hbl', hbn', hcs'⟩
                  · rw [hq] at hpj; simp at hpj
                  obtain ⟨c0, c1, c2, e0, e1, e2, hr⟩ := hcs' j hpj
                  have hjk := unhide HSK _ (List.getElem_mem hpj)
                  have HNX := hide (fun (he : isS nm (sigs[j]'hpj) = false) => no_next hpj (unhide HN) he)
                  have HFX := hide (fun (he : isS nm (sigs[j]'hpj) = true) => find_at hpj (unhide HN) he)
                  obtain ⟨x, hx⟩ : ∃ x, sigs[j]'hpj = x := ⟨_, rfl⟩
                  rw [hx] at hr hjk HNX HFX
                  have HL4 := hide (l4Sig_any lo2 _ x W hr hjk.1)
                  obtain ⟨xn, xargs, xt⟩ := x
                  have HIS : Hid (isS nm ⟨xn, xargs, xt⟩ = (xn.toList == nm.toList)) := hide rfl
                  obtain ⟨xa, xc, hv, _, hI⟩ := hr
                  simp only [Value.agg.injEq, Array.mk.injEq, List.cons.injEq, and_true] at hv
                  obtain ⟨rfl, rfl, rfl⟩ := hv
                  try dsimp only at e0 e1 e2
                  clear hcs' hx hI hjk
                  cases he2 : (xn.toList == nm.toList) with
                  | true =>
                    have HRR : Hid (R = some ⟨xn, xargs, xt⟩) := hide (by rw [unhide HX3, unhide HFX ((unhide HIS).trans he2)])
                    clear HX3 HFX HNX HN
                    go_wp2_with fail
                    refine (unhide HL4).mono ?_
                    rintro r w2 ⟨v2, rfl, ho2, hb2⟩
                    obtain ⟨o2, p2, rfl, hk2⟩ := ho2
                    dsimp only at hk2 ⊢
                    have n2 := (unhide N1).below hb2 (by have := unhide HWS; omega)
                    have hB2 := (unhide HW).trans (hb2.mono (unhide HW).size)
                    have q0 := n2.cellAt (i := 0) rfl
                    have q1 := n2.cellAt (i := 1) rfl
                    have q2 := n2.cellAt (i := 2) rfl
                    have f0 := n2.2 0
                    have f1 := n2.2 1
                    have f2 := n2.2 2
                    have N1R := hide n2
                    have HB2 := hide hB2
                    have HK2 := hide hk2
                    clear n2 hb2 hB2 hk2 HL4 d0 d1 e0 e1 e2
                    go_wp2
                    obtain ⟨F, hF⟩ : ∃ F, F = (((w2.setCell ⟨w.heap.size + 1, 0, none⟩ (.string xn)).setCell ⟨w.heap.size + 1, 1, none⟩ (.slice o2 xargs.length p2)).setCell ⟨w.heap.size + 1, 2, none⟩ (.int .i64 xt)) := ⟨_, rfl⟩
                    have hn := (((unhide N1R).set 0 (.string xn) (by simp)).set 1 (.slice o2 xargs.length p2) (by simp)).set 2 (.int .i64 xt) (by simp)
                    have hFB := (((Below.refl w.heap.size w2).setCell (p := ⟨w.heap.size + 1, 0, none⟩) (by simp) (.string xn)).setCell (p := ⟨w.heap.size + 1, 1, none⟩) (by simp) (.slice o2 xargs.length p2)).setCell (p := ⟨w.heap.size + 1, 2, none⟩) (by simp) (.int .i64 xt)
                    have hFO : ∀ b, w.heap.size + 2 ≤ b → F.heap[b]? = w2.heap[b]? := fun b hb => by rw [hF, Below.heap_setCell _ _ _ _ (by simp; omega), Below.heap_setCell _ _ _ _ (by simp; omega), Below.heap_setCell _ _ _ _ (by simp; omega)]
                    have hFS : F.heap.size = w2.heap.size := by rw [hF]; simp [World.setCell]
                    rw [← hF] at hn hFB ⊢
                    have g0 := hn.cellAt (i := 0) rfl
                    have g1 := hn.cellAt (i := 1) rfl
                    have g2 := hn.cellAt (i := 2) rfl
                    refine bodyPost_ret (v := .tuple #[.agg #[Value.string xn, Value.slice o2 xargs.length p2, Value.int .i64 xt], .bool true]) (by simp [results, Tryz.results90, go_sem, g0, g1, g2]) rfl ?_
                    rw [unhide HRR]
                    refine ⟨.slice o2 xargs.length p2, rfl, ⟨o2, p2, rfl, ?_⟩, (unhide HB2).trans hFB⟩
                    rcases unhide HK2 with h | ⟨b, h1, h2, h3, h4, h5⟩
                    · exact .inl h
                    · have hblk := hFO b (by have := unhide HWS; omega)
                      exact .inr ⟨b, h1, by have := unhide HWS; omega, by omega, fun j hj => (World.cell?_of_block (w := w2) (a := ⟨b, j, none⟩) hblk).trans (h4 j hj), fun j => (World.frozen?_of_block (w := w2) (a := ⟨b, j, none⟩) hblk).trans (h5 j)⟩
                  | false =>
                    have HNN := hide (unhide HNX ((unhide HIS).trans he2))
                    clear HX3 HFX HNX HN HL4
                    go_wp2
                    go_round
                    case rel => exact ⟨j + 1, by omega, by go_num, HNN⟩
                    case measure => simp [intOf]; omega
                · have HRR : Hid (R = none) := hide (by rw [unhide HX3, find_none (fun q hq => unhide HN q hq (by omega))])
                  clear HX3 HN
                  have n1 := unhide N1
                  have q0 := n1.cellAt (i := 0) rfl
                  have q1 := n1.cellAt (i := 1) rfl
                  have q2 := n1.cellAt (i := 2) rfl
                  have f0 := n1.2 0
                  have f1 := n1.2 1
                  have f2 := n1.2 2
                  have N1R := hide n1
                  have HBE := hide (unhide HW)
                  clear n1
                  go_wp2
                  obtain ⟨F, hF⟩ : ∃ F, F = (((W.setCell ⟨w.heap.size + 1, 0, none⟩ (.string ⟨#[]⟩)).setCell ⟨w.heap.size + 1, 1, none⟩ (.slice none 0 0)).setCell ⟨w.heap.size + 1, 2, none⟩ (.int .i64 0)) := ⟨_, rfl⟩
                  have hn := (((unhide N1R).set 0 (.string ⟨#[]⟩) (by simp)).set 1 (.slice none 0 0) (by simp)).set 2 (.int .i64 0) (by simp)
                  have hFB := (((Below.refl w.heap.size W).setCell (p := ⟨w.heap.size + 1, 0, none⟩) (by simp) (.string ⟨#[]⟩)).setCell (p := ⟨w.heap.size + 1, 1, none⟩) (by simp) (.slice none 0 0)).setCell (p := ⟨w.heap.size + 1, 2, none⟩) (by simp) (.int .i64 0)
                  have hFO : ∀ b, w.heap.size + 2 ≤ b → F.heap[b]? = W.heap[b]? := fun b hb => by rw [hF, Below.heap_setCell _ _ _ _ (by simp; omega), Below.heap_setCell _ _ _ _ (by simp; omega), Below.heap_setCell _ _ _ _ (by simp; omega)]
                  have hFS : F.heap.size = W.heap.size := by rw [hF]; simp [World.setCell]
                  rw [← hF] at hn hFB ⊢
                  have g0 := hn.cellAt (i := 0) rfl
                  have g1 := hn.cellAt (i := 1) rfl
                  have g2 := hn.cellAt (i := 2) rfl
                  refine bodyPost_ret (v := .tuple #[.agg #[Value.string ⟨#[]⟩, Value.slice none 0 0, Value.int .i64 0], .bool false]) (by simp [results, Tryz.results90, go_sem, g0, g1, g2]) rfl ?_
                  rw [unhide HRR]
                  exact ⟨.slice none 0 0, rfl, ⟨none, 0, rfl, .inl rfl⟩, (unhide HBE).trans hFB⟩
          · have HRR : Hid (R = none) := hide (by rw [unhide HX2, find_none (fun j hj => unhide HN j hj (by omega))]; rfl)
            clear HX2 HN
            have n1 := unhide N1
            have q0 := n1.cellAt (i := 0) rfl
            have q1 := n1.cellAt (i := 1) rfl
            have q2 := n1.cellAt (i := 2) rfl
            have f0 := n1.2 0
            have f1 := n1.2 1
            have f2 := n1.2 2
            have N1R := hide n1
            have HBE := hide (unhide HW)
            clear n1
            go_wp2
            obtain ⟨F, hF⟩ : ∃ F, F = (((W.setCell ⟨w.heap.size + 1, 0, none⟩ (.string ⟨#[]⟩)).setCell ⟨w.heap.size + 1, 1, none⟩ (.slice none 0 0)).setCell ⟨w.heap.size + 1, 2, none⟩ (.int .i64 0)) := ⟨_, rfl⟩
            have hn := (((unhide N1R).set 0 (.string ⟨#[]⟩) (by simp)).set 1 (.slice none 0 0) (by simp)).set 2 (.int .i64 0) (by simp)
            have hFB := (((Below.refl w.heap.size W).setCell (p := ⟨w.heap.size + 1, 0, none⟩) (by simp) (.string ⟨#[]⟩)).setCell (p := ⟨w.heap.size + 1, 1, none⟩) (by simp) (.slice none 0 0)).setCell (p := ⟨w.heap.size + 1, 2, none⟩) (by simp) (.int .i64 0)
            have hFO : ∀ b, w.heap.size + 2 ≤ b → F.heap[b]? = W.heap[b]? := fun b hb => by rw [hF, Below.heap_setCell _ _ _ _ (by simp; omega), Below.heap_setCell _ _ _ _ (by simp; omega), Below.heap_setCell _ _ _ _ (by simp; omega)]
            have hFS : F.heap.size = W.heap.size := by rw [hF]; simp [World.setCell]
            rw [← hF] at hn hFB ⊢
            have g0 := hn.cellAt (i := 0) rfl
            have g1 := hn.cellAt (i := 1) rfl
            have g2 := hn.cellAt (i := 2) rfl
            refine bodyPost_ret (v := .tuple #[.agg #[Value.string ⟨#[]⟩, Value.slice none 0 0, Value.int .i64 0], .bool false]) (by simp [results, Tryz.results90, go_sem, g0, g1, g2]) rfl ?_
            rw [unhide HRR]
            exact ⟨.slice none 0 0, rfl, ⟨none, 0, rfl, .inl rfl⟩, (unhide HBE).trans hFB⟩
end Go.Proofs.YtgmohnbjfemebaaGreatDoor
