/- The walk of impl.FaceOf: the face of a module, in new memory, each list in a block of its own. Conditions: the module can be read, and weighs at most 2^20. -/
import Derived.Test.YtffabnmgcicpiaaGreatG3
import Derived.Test.YtffabnmgcicpiaaGreatGc
import Derived.Test.YtffabnmgcicpiaaGreatG4
import Derived.Deep.AppendLies
import Derived.Maps.OwnSet
namespace Go.Proofs.YtffabnmgcicpiaaGreat
open Go.RowKit Go.PlainAid
open Go.Maps Go.Sort

/-- The face of a module. -/
def faceL (m : TM) : List TS := if m.okB = true then putAll (pubs m.funs) else []
/-- A list of signatures as an answer, each list in a block of its own. -/
def OwnL (w : World) (lo n : Nat) (v : Value) (l : List TS) : Prop :=
  (l = [] ∧ ∃ (a : Option Addr) (cap : Nat), v = .slice a 0 cap) ∨ ∃ (b cap : Nat) (vs : Nat → Value) (bs : Nat → Nat), v = .slice (some ⟨b, 0, none⟩) l.length cap ∧ LL w b vs bs l ∧ Apart lo n b bs l.length
/-- The cells of signatures, one behind the other. -/
def flatF (vs : Nat → Value) : Nat → List TS → List Value
  | _, [] => []
  | n, s :: t => .string s.name :: vs n :: .int .i64 s.type :: flatF vs (n + 1) t
def flatV (l : List TS) (vs : Nat → Value) : List Value := flatF vs 0 l
theorem flatF_snoc (vs : Nat → Value) (s : TS) : ∀ (n : Nat) (l : List TS), flatF vs n (l ++ [s]) = flatF vs n l ++ [.string s.name, vs (n + l.length), .int .i64 s.type]
  | n, [] => rfl
  | n, t :: r => by
    rw [List.cons_append, flatF, flatF, flatF_snoc vs s (n + 1) r, List.length_cons, show n + 1 + r.length = n + (r.length + 1) by omega]
    rfl
theorem flatF_congr (vs vs' : Nat → Value) : ∀ (n : Nat) (l : List TS), (∀ j, n ≤ j → j < n + l.length → vs j = vs' j) → flatF vs n l = flatF vs' n l
  | n, [], _ => rfl
  | n, t :: r, h => by
    rw [flatF, flatF, flatF_congr vs vs' (n + 1) r (fun j h1 h2 => h j (by omega) (by rw [List.length_cons]; omega)), h n (Nat.le_refl _) (by simp)]
theorem flatF_at (vs : Nat → Value) : ∀ (n : Nat) (l : List TS) (j : Nat) (hj : j < l.length), (flatF vs n l)[j * 3]? = some (.string l[j].name) ∧ (flatF vs n l)[j * 3 + 1]? = some (vs (n + j)) ∧ (flatF vs n l)[j * 3 + 2]? = some (.int .i64 l[j].type)
  | n, t :: r, 0, _ => ⟨rfl, rfl, rfl⟩
  | n, t :: r, j + 1, hj => by
    obtain ⟨h1, h2, h3⟩ := flatF_at vs (n + 1) r j (by simpa using hj)
    rw [show (j + 1) * 3 = j * 3 + 3 by omega, show j * 3 + 3 + 1 = j * 3 + 1 + 3 by omega, show j * 3 + 3 + 2 = j * 3 + 2 + 3 by omega, show n + (j + 1) = n + 1 + j by omega]
    exact ⟨h1, h2, h3⟩
theorem OwnI.tight {w : World} {lo n : Nat} {v : Value} {zs : List Int} (h : OwnI w lo n v zs) (d : Nat) (hd : d < lo) (hn : d < n) : ∃ b, d ≤ b ∧ b < n ∧ OwnI w b (b + 1) v zs := by
  obtain ⟨a, cap, hv, h⟩ := h
  rcases h with h | ⟨b, h1, h2, h3, h4, h5⟩
  · exact ⟨d, Nat.le_refl _, hn, a, cap, hv, .inl h⟩
  · exact ⟨b, by omega, h3, a, cap, hv, .inr ⟨b, h1, Nat.le_refl _, Nat.lt_succ_self _, h4, h5⟩⟩
theorem OwnI.one {w w' : World} {b : Nat} {v : Value} {zs : List Int} (h : OwnI w b (b + 1) v zs) (hb : w'.heap[b]? = w.heap[b]?) : OwnI w' b (b + 1) v zs :=
  h.same (fun x h1 h2 => by
    have hx : x = b := by omega
    subst hx
    exact ⟨fun j => World.cell?_of_block (w := w) (a := ⟨x, j, none⟩) hb, fun j => World.frozen?_of_block (w := w) (a := ⟨x, j, none⟩) hb⟩) (Nat.le_refl _) (Nat.le_refl _)
theorem told_len {l ts : List TS} (h : Told l ts) : ts.length ≤ l.length := by
  have nd : ts.Nodup := (List.pairwise_map.1 h.1).imp (fun {a b} hab e => by rw [e] at hab; exact List.lt_irrefl _ hab)
  exact nd.length_le_of_subset (fun x hx => h.2.1 x hx)
/-- The list in the making: the first k signatures, each list in a block of its own. -/
structure LoopL (base : Nat) (ts : List TS) (k : Nat) (vs : Nat → Value) (bs : Nat → Nat) (o : Value) (w : World) : Prop where
  row : w.ownsRow base 52 3 o k (flatV (ts.take k) vs)
  own : ∀ j (hj : j < ts.length), j < k → OwnI w (bs j) (bs j + 1) (vs j) ts[j].args
  lt : ∀ j, j < k → base ≤ bs j ∧ bs j < w.heap.size ∧ o.ownBlock ≠ some (bs j)
  ne : ∀ i j, i < k → j < k → i ≠ j → bs i ≠ bs j
theorem LoopL.start (base : Nat) (ts : List TS) (vs : Nat → Value) (bs : Nat → Nat) (w : World) : LoopL base ts 0 vs bs (.slice none 0 0) w :=
  ⟨World.ownsRow_nil _ _ _ _, fun _ _ h => absurd h (Nat.not_lt_zero _), fun _ h => absurd h (Nat.not_lt_zero _), fun _ _ h => absurd h (Nat.not_lt_zero _)⟩
theorem LoopL.next {base : Nat} {ts : List TS} {k : Nat} {vs : Nat → Value} {bs : Nat → Nat} {o : Value} {w w5 w7 : World} {v5 : Value} {g cap' : Nat} {elem : Obj} (h : LoopL base ts k vs bs o w) (hp : k < ts.length) (hw5 : Below w.heap.size w w5) (hsz : w.heap.size < w5.heap.size)
    (ho5 : OwnI w5 (w.heap.size + 1) w5.heap.size v5 ts[k].args) (hgrow : (w5.alloc elem).grownBy w7 o.ownBlock) (hat : o.ownBlock = some g ∨ g = w5.heap.size + 1) (hown : w7.ownsRow base 52 3 (.slice (some ⟨g, 0, none⟩) (k + 1) cap') (k + 1) (flatV (ts.take k) vs ++ [.string ts[k].name, v5, .int .i64 ts[k].type])) (hb : base ≤ w.heap.size) :
    ∃ vs' bs', LoopL base ts (k + 1) vs' bs' (.slice (some ⟨g, 0, none⟩) (k + 1) cap') w7 := by
  obtain ⟨B, hB1, hB2, hB3⟩ := ho5.tight w.heap.size (by omega) hsz
  have hol : ∀ x, o.ownBlock = some x → x < w.heap.size := fun x hx => (h.row.lt x hx).2
  have hs7 : w5.heap.size + 1 ≤ w7.heap.size := by have := hgrow.size; rw [alloc_size] at this; exact this
  have h57 : ∀ x, x < w5.heap.size → o.ownBlock ≠ some x → w7.heap[x]? = w5.heap[x]? := fun x hx hne => (hgrow.block x (by rw [alloc_size]; omega) (fun e => hne e.symm)).trans (Below.heap_alloc _ _ _ hx)
  have hBo : o.ownBlock ≠ some B := fun e => by have := hol B e; omega
  refine ⟨fun j => if j = k then v5 else vs j, fun j => if j = k then B else bs j, ?_, fun j hj hjk => ?_, fun j hj => ?_, fun i j hi hj hij => ?_⟩
  · have e : flatV (ts.take (k + 1)) (fun j => if j = k then v5 else vs j) = flatV (ts.take k) vs ++ [.string ts[k].name, v5, .int .i64 ts[k].type] := by
      rw [List.take_succ_eq_append_getElem hp]
      unfold flatV
      have hl : (ts.take k).length = k := by rw [List.length_take]; omega
      rw [flatF_snoc, flatF_congr (fun j => if j = k then v5 else vs j) vs 0 (ts.take k) (fun j _ h2 => if_neg (by omega)), hl]
      simp
    rw [e]
    exact hown
  · by_cases e : j = k
    · subst e
      simp only [if_true]
      exact hB3.one (h57 B hB2 hBo)
    · simp only [if_neg e]
      have hl := h.lt j (by omega)
      exact (h.own j hj (by omega)).one ((h57 (bs j) (by omega) hl.2.2).trans (hw5.block _ hl.2.1))
  · by_cases e : j = k
    · subst e
      simp only [if_true]
      refine ⟨by omega, by omega, ?_⟩
      show some g ≠ some B
      rcases hat with h1 | h1
      · rw [← h1]; exact hBo
      · simp; omega
    · simp only [if_neg e]
      have hl := h.lt j (by omega)
      refine ⟨hl.1, by omega, ?_⟩
      show some g ≠ some (bs j)
      rcases hat with h1 | h1
      · rw [← h1]; exact hl.2.2
      · simp; omega
  · by_cases e1 : i = k <;> by_cases e2 : j = k
    · omega
    · simp only [if_pos e1, if_neg e2]
      have := (h.lt j (by omega)).2.1
      omega
    · simp only [if_neg e1, if_pos e2]
      have := (h.lt i (by omega)).2.1
      omega
    · simp only [if_neg e1, if_neg e2]
      exact h.ne i j (by omega) (by omega) hij
theorem LoopL.done {base : Nat} {ts : List TS} {vs : Nat → Value} {bs : Nat → Nat} {o : Value} {w : World} (h : LoopL base ts ts.length vs bs o w) : OwnL w base w.heap.size o ts := by
  have hr := h.row
  rw [List.take_of_length_le (Nat.le_refl _)] at hr
  rcases hr.2 with ⟨h1, h2⟩ | ⟨g, cap, cur, h1, h2, h3, h4, h5, h6, h7⟩
  · exact .inl ⟨List.length_eq_zero_iff.1 h2, none, 0, h1⟩
  · have hgl : g < w.heap.size := by
      rcases Nat.lt_or_ge g w.heap.size with x | x
      · exact x
      · rw [Array.getElem?_eq_none x] at h3; cases h3
    have hcell : ∀ i, i < ts.length * 3 → w.cell? ⟨g, i, none⟩ = (flatF vs 0 ts)[i]? := fun i hi => by
      have e1 : w.cell? ⟨g, i, none⟩ = cur[i]? := by simp [World.cell?, h3]
      have e2 : (cur.toList.take (ts.length * 3))[i]? = cur.toList[i]? := List.getElem?_take_of_lt hi
      rw [e1, ← Array.getElem?_toList, ← e2, h7]
      rfl
    refine .inr ⟨g, cap, vs, bs, h1, ⟨fun j => by simp [World.frozen?, h3], fun j hj => ?_, fun j hj => ?_, fun j hj => ?_, fun j hj => h.own j hj hj⟩, ⟨⟨h2, hgl⟩, fun j hj => ?_, fun i j hi hj => h.ne i j hi hj⟩⟩
    · rw [hcell _ (by omega)]; exact (flatF_at vs 0 ts j hj).1
    · rw [hcell _ (by omega)]; have := (flatF_at vs 0 ts j hj).2.1; rwa [Nat.zero_add] at this
    · rw [hcell _ (by omega)]; exact (flatF_at vs 0 ts j hj).2.2
    · have hl := h.lt j hj
      refine ⟨hl.1, hl.2.1, fun e => hl.2.2 ?_⟩
      rw [h1, e]
      rfl
theorem OwnL.lower {w : World} {lo lo' n : Nat} {v : Value} {l : List TS} (h : OwnL w lo n v l) (hl : lo' ≤ lo) : OwnL w lo' n v l := by
  rcases h with h | ⟨b, cap, vs, bs, h1, h2, h3⟩
  · exact .inl h
  · exact .inr ⟨b, cap, vs, bs, h1, h2, ⟨⟨by have := h3.b0; omega, h3.b0.2⟩, fun j hj => ⟨by have := h3.bj j hj; omega, (h3.bj j hj).2⟩, h3.ne⟩⟩
theorem three_new (W : World) (x y z : Value) (t : TypeId) : ∀ j u, [x, y, z][j]? = some u → (W.alloc (.cells #[x, y, z] t)).cell? ((⟨W.heap.size, 0, none⟩ : Addr).add j) = some u := fun j u hu => by
  rw [Addr.add_lit, Nat.zero_add, alloc_cell]
  simpa using hu
theorem below_newG (w : World) (o : Obj) : Below w.heap.size w (w.alloc o) := (Below.refl _ _).alloc (Nat.le_refl _) _
theorem own_otherG {W W' : World} {base e s n B : Nat} {v : Value} {xs : List Value} (h : W.ownsRow base e s v n xs) (hg : W.grownBy W' (some B)) (hB : B < base) : W'.ownsRow base e s v n xs :=
  h.kept hg (by
    by_cases hv : v.ownBlock = none
    · exact .inl hv
    · right
      intro e
      have := (h.lt B e).1
      omega)
theorem below_grG {w w' W : World} {B n : Nat} (hb : Below n w W) (hg : W.grownBy w' (some B)) (hn : n ≤ B) (hs : n ≤ W.heap.size) : Below n w w' :=
  hb.grown hg hs (fun k e => by cases e; exact hn)
theorem sig_of_own {w : World} {lo : Nat} {v : Value} {s : TS} (h : OwnI w lo w.heap.size v s.args) (h1 : s.name.size ≤ 8) (h2 : s.args.length ≤ 4) : IsSig w lo w.heap.size (.agg #[.string s.name, v, .int .i64 s.type]) s := by
  obtain ⟨a, cap, rfl, hI⟩ := h.ints
  exact ⟨a, cap, rfl, ⟨by unfold maxLen; omega, by unfold maxLen; omega⟩, hI⟩

set_option maxRecDepth 100000 in
set_option maxHeartbeats 8000000 in
theorem FaceOfI_any (lo h : Nat) (v : Value) (m : TM) (w : World) (hM : IsMod w lo w.heap.size h v m) :
    Calls Tryz.prog 5 #[v] w fun r w' => ∃ v' : Value, r = .returned v' ∧ OwnL w' w.heap.size w'.heap.size v' (faceL m) ∧ Below w.heap.size w w' := by
  obtain ⟨i0, hi, hz0, hz1, hz2⟩ := info_parts infoSig
  have K : Keyed Tryz.prog 9 := string_keyed Tryz.underlying9
  have HOK := hide (fun (W : World) (hb : Below w.heap.size w W) => TreeOkI_any lo h v m W (IsMod.kept h hb hb.size _ _ hM))
  have HX : Hid (faceL m = if m.okB = true then putAll (pubs m.funs) else []) := hide rfl
  have HFN := hide (@ok_funs m)
  generalize faceL m = R at HX ⊢
  generalize m.okB = ok at HOK HX HFN
  obtain ⟨us, fs, mn⟩ := m
  obtain ⟨a1, a2, a3, k1, k2, k3, rfl, ⟨_, hz2', _, _, _⟩, _, q2, _⟩ := hM
  dsimp only at hz2' q2 HX HFN HOK
  have HFS := hide (fun (W : World) (hb : Below w.heap.size w W) => q2.kept hb hb.size)
  unfold maxLen at hz2'
  clear q2
  have NB := hide (Blk.new w [Value.slice a1 us.length k1, Value.slice a2 fs.length k2, Value.slice a3 mn.length k3] 27)
  have HW0 := hide (below_newG w (.cells [Value.slice a1 us.length k1, Value.slice a2 fs.length k2, Value.slice a3 mn.length k3].toArray 27))
  have hmm := @run_makeMap Tryz.prog
  go_enter Tryz.func5, Tryz.ntmps5
  go_wp2_with fail
  refine (unhide HOK _ (unhide HW0)).mono ?_
  rintro r w2 ⟨rfl, hb2⟩
  have HB2 := hide ((unhide HW0).trans (hb2.mono (unhide HW0).size))
  have n2 := (unhide NB).below hb2 (by simp)
  have p1 := n2.cellAt (i := 1) rfl
  have hs2 : w.heap.size + 1 ≤ w2.heap.size := by have := hb2.size; rw [alloc_size] at this; exact this
  have N2 := hide n2
  clear hb2 n2 HOK HW0 NB
  cases ok with
  | false =>
    have HRR : Hid (R = []) := hide (by rw [unhide HX]; rfl)
    clear HX HFN hmm
    go_wp2
    go_ret
    exact ⟨_, rfl, .inl ⟨unhide HRR, none, 0, rfl⟩, unhide HB2⟩
  | true =>
  have HX2 : Hid (R = putAll (pubs fs)) := hide (by rw [unhide HX]; rfl)
  obtain ⟨h8, hfn, hpw⟩ := unhide HFN rfl
  have HFF := hide hfn
  have HPW := hide (pubs_keys hpw)
  have H8 := hide h8
  clear HX HFN hfn hpw
  have p1' : ∀ o : Obj, (w2.alloc o).cell? ⟨w.heap.size, 1, none⟩ = some (.slice a2 fs.length k2) := fun o => ((unhide N2).old o (by omega)).cellAt (i := 1) rfl
  have hwn : w.heap.size < w2.heap.size := by omega
  have hwne : w.heap.size ≠ w2.heap.size := by omega
  go_wp2
  clear hmm p1 p1' hwne
  have HS2 := hide hs2
  clear hs2 hwn
  go_loopw [5, 16] (fun _ i wr => ∃ (k n : Nat) (D : DataW Value), k ≤ fs.length ∧ n ≤ k ∧ i = .int .i64 k ∧ Hid (wr.ownsMap Tryz.prog 9 RH w2.heap.size n D) ∧ Hid (Tab D (pubs (fs.take k))) ∧ Hid (Below w2.heap.size w2 wr) ∧ Hid (w2.heap.size + 1 ≤ wr.heap.size)) (fun _ i _ => fs.length - (intOf i).toNat)
  case atStart => exact ⟨0, 0, .map [], Nat.zero_le _, Nat.le_refl _, rfl, hide (World.ownsMap_made w2 Tryz.prog 9 RH), hide Tab.nil, hide (below_newG _ _), hide (by simp)⟩
  case round =>
    obtain ⟨k, n, D, hk, hnk, rfl, HM, HT, HB, HSR⟩ := hrel
    have HWR := hide ((unhide HB2).trans ((unhide HB).mono (unhide HB2).size))
    by_cases hp : k < fs.length
    · rcases unhide HFS _ (unhide HWR) with hq | ⟨b, off, rfl, hbl, hbn, hcs⟩
      · rw [hq] at hp; simp at hp
      obtain ⟨c0, c1, c2, c3, c4, c5, c6, c7, c8, d0, d1, d2, d3, d4, d5, d6, d7, d8, hr⟩ := hcs k hp
      have hfk := unhide HFF _ (List.getElem_mem hp)
      have htk : fs.take (k + 1) = fs.take k ++ [fs[k]] := List.take_succ_eq_append_getElem hp
      obtain ⟨x, hx⟩ : ∃ x, fs[k]'hp = x := ⟨_, rfl⟩
      rw [hx] at hr hfk htk
      have hsn := pubs_snoc (fs.take k) x
      rw [← htk] at hsn
      obtain ⟨xs, xp, xa, xl, xc, xt, xk, xm, xn, xd, ya, yl, yc, rfl, rfl, rfl, rfl, rfl, rfl, rfl, rfl, rfl⟩ := IsFun.form h hr
      have hxp : x.name = xs ∧ x.pub = xp := by
        obtain ⟨_, _, _, _, _, _, _, hv, _⟩ := hr
        simp only [Value.agg.injEq, Array.mk.injEq, List.cons.injEq, Value.string.injEq, Value.bool.injEq] at hv
        exact ⟨hv.1.symm, hv.2.1.symm⟩
      rw [hxp.2] at hsn
      have HSN := hide hsn
      have HFO := hide (fun (W' : World) (hb : Below wr.heap.size wr W') => faceSigOf_any lo h _ x W' (IsFun.same h (Below.same hb) (Nat.le_refl _) hb.size _ _ hr) (by have := hfk.1; omega) (by have := hfk.2.2; omega))
      have HXN := hide hxp.1
      have HFK := hide hfk
      clear hcs hr hx hfk htk hsn hxp
      cases xp with
      | false =>
        have HTT : Hid (Tab D (pubs (fs.take (k + 1)))) := hide (by rw [unhide HSN]; simpa using unhide HT)
        clear HFO
        go_wp2
        go_roundw
        case rel => exact ⟨k + 1, n, D, by omega, by omega, by go_num, hide (owns_below (unhide HM) (below_newG _ _) (by have := unhide HSR; omega)), HTT, hide ((unhide HB).alloc (unhide HB).size _), hide (by rw [alloc_size]; have := unhide HSR; omega)⟩
        case measure => simp [intOf]; omega
      | true =>
        have NC := hide (Blk.new wr [Value.string xs, Value.bool true, Value.slice xa xl xc, Value.int .i64 xt, Value.int .i64 xk, Value.int .i64 xm, Value.string xn, Value.string xd, Value.slice ya yl yc] 33)
        have HSG : Hid (∀ (lo2 : Nat) (W : World) (v : Value), OwnI W lo2 W.heap.size v (sigOf x).args → Calls Tryz.prog 12 #[.agg #[.string (sigOf x).name, v, .int .i64 (sigOf x).type]] W fun r w' => r = .returned (lineV (sigOf x)) ∧ Below W.heap.size W w') := hide (fun lo2 W v ho => faceLineOf_any lo2 _ (sigOf x) W (sig_of_own ho (unhide HFK).2.2 (by have := (unhide HFK).1; simpa [sigOf] using this)) (by have := (unhide HFK).1; simpa [sigOf] using this))
        have HKN : Hid (x.name.size ≤ 8) := hide (unhide HFK).2.2
        have HSX : Hid ((sigOf x).name = xs) := HXN
        have HTT : Hid (pubs (fs.take (k + 1)) = pubs (fs.take k) ++ [sigOf x]) := hide (by rw [unhide HSN]; simp)
        obtain ⟨s, hs⟩ : ∃ s, sigOf x = s := ⟨_, rfl⟩
        rw [hs] at HSG HSX HTT
        have hsz8 : xs.size ≤ 8 := by rw [← unhide HXN]; exact unhide HKN
        unfold OwnSig at HFO
        rw [hs] at HFO
        have HST := hide (fun (W : World) (hb : Below wr.heap.size wr W) => (owns_below (unhide HM) hb (by have := unhide HSR; omega)).store K Tryz.underlying45 (by unfold maxLen; omega) (key := .string xs) (val := lineV s) (kl := .string (key s)) (d := .held (lineV s)) (ps := []) (by have := WideMaps.keyOf_string_mk (P := Tryz.prog) (s := s.name) Tryz.underlying9 (by unfold maxLen; rw [unhide HSX]; omega); rw [unhide HSX] at this; unfold key; rw [unhide HSX]; exact this) rfl)
        clear hs HFK HXN HKN
        have z0' : ∀ W : World, Below (wr.alloc (.cells #[Value.string xs, Value.bool true, Value.slice xa xl xc, Value.int .i64 xt, Value.int .i64 xk, Value.int .i64 xm, Value.string xn, Value.string xd, Value.slice ya yl yc] 33)).heap.size (wr.alloc (.cells #[Value.string xs, Value.bool true, Value.slice xa xl xc, Value.int .i64 xt, Value.int .i64 xk, Value.int .i64 xm, Value.string xn, Value.string xd, Value.slice ya yl yc] 33)) W → W.cell? ⟨wr.heap.size, 0, none⟩ = some (.string xs) := fun W hb => ((unhide NC).below hb (by simp)).cellAt (i := 0) rfl
        have HZ0 := hide z0'
        clear z0'
        go_wp2_with fail
        go_region_with (first | (go_at_call 13; refine (unhide HFO _ (below_newG wr (.cells #[Value.string xs, Value.bool true, Value.slice xa xl xc, Value.int .i64 xt, Value.int .i64 xk, Value.int .i64 xm, Value.string xn, Value.string xd, Value.slice ya yl yc] 33)).drew).mono ?_; rintro r w5 ⟨v5, rfl, ho5, hb5⟩; have k5 : Below (wr.alloc (.cells #[Value.string xs, Value.bool true, Value.slice xa xl xc, Value.int .i64 xt, Value.int .i64 xk, Value.int .i64 xm, Value.string xn, Value.string xd, Value.slice ya yl yc] 33)).heap.size (wr.alloc (.cells #[Value.string xs, Value.bool true, Value.slice xa xl xc, Value.int .i64 xt, Value.int .i64 xk, Value.int .i64 xm, Value.string xn, Value.string xd, Value.slice ya yl yc] 33)) w5 := (Below.refl _ (wr.alloc (.cells #[Value.string xs, Value.bool true, Value.slice xa xl xc, Value.int .i64 xt, Value.int .i64 xk, Value.int .i64 xm, Value.string xn, Value.string xd, Value.slice ya yl yc] 33))).drew.trans hb5; have z5 := unhide HZ0 w5 k5) | (go_at_call 12; refine (unhide HSG _ w5 _ ho5).mono ?_; rintro r w6 ⟨rfl, hb6⟩; have k6 : Below (wr.alloc (.cells #[Value.string xs, Value.bool true, Value.slice xa xl xc, Value.int .i64 xt, Value.int .i64 xk, Value.int .i64 xm, Value.string xn, Value.string xd, Value.slice ya yl yc] 33)).heap.size (wr.alloc (.cells #[Value.string xs, Value.bool true, Value.slice xa xl xc, Value.int .i64 xt, Value.int .i64 xk, Value.int .i64 xm, Value.string xn, Value.string xd, Value.slice ya yl yc] 33)) w6 := k5.trans (hb6.mono k5.size); have z6 := unhide HZ0 w6 k6; have k7 : Below wr.heap.size wr w6 := (below_newG wr (.cells #[Value.string xs, Value.bool true, Value.slice xa xl xc, Value.int .i64 xt, Value.int .i64 xk, Value.int .i64 xm, Value.string xn, Value.string xd, Value.slice ya yl yc] 33)).trans (k6.mono (by simp)); obtain ⟨w7, hrun, hown7, hturn⟩ := unhide HST w6 k7))
        all_goals (
          have HO7 := hide hown7
          have HTU := hide hturn
          have K7 := hide k7
          clear hrun hown7 hturn k7 k6 hb6 k5 hb5 ho5
          have HT7 : Hid (Tab (D.put (.string (key s)) (.held (lineV s))) (pubs (fs.take (k + 1)))) := hide (by rw [unhide HTT]; exact (unhide HT).put (unhide HM).isMap s)
          have HB7 : Hid (Below w2.heap.size w2 w7) := hide (below_grG ((unhide HB).trans ((unhide K7).mono (unhide HB).size)) (unhide HTU).grown (Nat.le_refl _) (by have := (unhide K7).size; have := (unhide HB).size; omega))
          have HS7 : Hid (w2.heap.size + 1 ≤ w7.heap.size) := hide (by have := (unhide HTU).grown.size; have := (unhide K7).size; have := unhide HSR; omega)
          go_wp2
          go_roundw
          case rel => exact ⟨k + 1, n + 1, _, by omega, by omega, by go_num, HO7, HT7, HB7, HS7⟩
          case measure => simp [intOf] <;> omega)
    · have hek : k = fs.length := by omega
      subst hek
      have HT2 := unhide HT
      rw [List.take_of_length_le (Nat.le_refl _)] at HT2
      have HTD := hide (told_any w2.heap.size n D (pubs fs) wr (unhide HM) (by have := unhide H8; omega) HT2)
      clear HT2
      go_wp2_with fail
      refine (unhide HTD).mono ?_
      rintro r w3 ⟨v3, ts, rfl, hrow3, htold, hb3⟩
      have hts : putAll (pubs fs) = ts := told_putAll htold (unhide HPW)
      have HRR : Hid (R = ts) := hide ((unhide HX2).trans hts)
      have HSM : Hid (∀ s ∈ ts, s.name.size ≤ 8 ∧ s.args.length ≤ 4 ∧ fl4 (ar s 0) (ar s 1) (ar s 2) (ar s 3) 4 = s.args) := hide (fun s hs => by
        obtain ⟨f, hf, rfl⟩ := pubs_mem (htold.2.1 s hs)
        have h5 := unhide HFF f hf
        have h4 : (sigOf f).args.length ≤ 4 := by have := h5.1; simpa [sigOf] using this
        exact ⟨h5.2.2, h4, fl4_args h4 h5.2.1⟩)
      obtain ⟨a4, c4, hv3, hlen3, hlines⟩ := fown_lines hrow3
      subst hv3
      have HLN := hide hlines
      have HB3 := hide ((unhide HWR).trans (hb3.mono (unhide HWR).size))
      have hl8 : ts.length ≤ 1000000 := by
        have h1 : ts.length ≤ (pubs fs).length := told_len htold
        have h2 := pubs_len fs
        have := unhide H8
        omega
      clear hrow3 htold hb3 hts hlen3 hlines HTD HM HT HB HFS HFF HPW HX2
      go_wp2
      go_loopw [6, 8, 32] (fun o _ i wr => ∃ (k : Nat) (vs : Nat → Value) (bs : Nat → Nat), k ≤ ts.length ∧ i = .int .i64 k ∧ Hid (LoopL w3.heap.size ts k vs bs o wr) ∧ Hid (Below w3.heap.size w3 wr)) (fun _ _ i _ => ts.length - (intOf i).toNat)
      case atStart => exact ⟨0, fun _ => .slice none 0 0, fun _ => 0, Nat.zero_le _, rfl, hide (LoopL.start _ _ _ _ _), hide (Below.refl _ _)⟩
      case round =>
        obtain ⟨k, vs, bs, hk, rfl, HL, HB⟩ := hrel
        obtain ⟨oa, oc, hov⟩ := own_sliceN (unhide HL).row
        subst hov
        have HWR2 := hide ((unhide HB3).trans ((unhide HB).mono (unhide HB3).size))
        by_cases hp : k < ts.length
        · rcases unhide HLN with hq | ⟨g, rfl, hgn, hcs⟩
          · rw [hq] at hp; simp at hp
          have hcl : ∀ i, i < 6 → wr.cell? ⟨g, k * 6 + i, none⟩ = (lineC (ts[k]'hp))[i]? := fun i hi => ((unhide HB).cell (p := ⟨g, k * 6 + i, none⟩) hgn).trans (hcs k hp i hi)
          have hsm := unhide HSM _ (List.getElem_mem hp)
          have HNX := hide (fun (w5 w7 : World) (v5 : Value) (g cap' : Nat) (elem : Obj) (h1 : Below wr.heap.size wr w5) (h2 : wr.heap.size < w5.heap.size) (h3 : OwnI w5 (wr.heap.size + 1) w5.heap.size v5 (ts[k]'hp).args) h4 h5 h6 => (unhide HL).next (w7 := w7) (g := g) (cap' := cap') (elem := elem) hp h1 h2 h3 h4 h5 h6 (unhide HB).size)
          obtain ⟨s, hs⟩ : ∃ s, ts[k]'hp = s := ⟨_, rfl⟩
          rw [hs] at hcl hsm HNX
          obtain ⟨hs1, hs2, hs3⟩ := hsm
          have c0 : wr.cell? ⟨g, k * 6, none⟩ = some (.string s.name) := hcl 0 (by omega)
          have c1 : wr.cell? ⟨g, k * 6 + 1, none⟩ = some (.int .i64 (ar s 0)) := hcl 1 (by omega)
          have c2 : wr.cell? ⟨g, k * 6 + 2, none⟩ = some (.int .i64 (ar s 1)) := hcl 2 (by omega)
          have c3 : wr.cell? ⟨g, k * 6 + 3, none⟩ = some (.int .i64 (ar s 2)) := hcl 3 (by omega)
          have c4 : wr.cell? ⟨g, k * 6 + 4, none⟩ = some (.int .i64 (ar s 3)) := hcl 4 (by omega)
          have c5 : wr.cell? ⟨g, k * 6 + 5, none⟩ = some (.int .i64 s.type) := hcl 5 (by omega)
          have HSG := hide (fun (W : World) => sigM_any s.name (ar s 0) (ar s 1) (ar s 2) (ar s 3) s.type s.args hs3 W)
          generalize ar s 0 = x0 at c1 HSG
          generalize ar s 1 = x1 at c2 HSG
          generalize ar s 2 = x2 at c3 HSG
          generalize ar s 3 = x3 at c4 HSG
          obtain ⟨nm, args, ty⟩ := s
          dsimp only at c0 c5 HSG HNX
          clear hcs hcl hs hs1 hs2 hs3
          go_wp2_with fail
          refine (unhide HSG _).mono ?_
          rintro r w5 ⟨v5, rfl, ho5, hb5⟩
          rw [alloc_size] at ho5
          have hb5' : Below wr.heap.size wr w5 := (below_newG wr (.cells [Value.string nm, Value.int .i64 x0, Value.int .i64 x1, Value.int .i64 x2, Value.int .i64 x3, Value.int .i64 ty].toArray 48)).trans (hb5.mono (by simp))
          have hs5 : wr.heap.size < w5.heap.size := by have := hb5.size; rw [alloc_size] at this; omega
          obtain ⟨a5, c5', hv5, -⟩ := id ho5
          subst hv5
          have HO5 := hide ho5
          have HB5 := hide hb5'
          have hrow5 := own_keptN (unhide HL).row hb5'
          have HROW5 := hide hrow5
          clear ho5 hb5 hb5' c0 c1 c2 c3 c4 c5 HSG hrow5
          go_wp2_with (at_builtin; refine wpList_append_lies _ rfl _ _ 34 rfl w3.heap.size 52 i0 (.agg #[.string ⟨#[]⟩, .slice none 0 0, .int .i64 0]) 3 48 Tryz.underlying34 hi hz0 hz1 hz2 rfl (by decide) (.slice oa k oc) k (flatV (ts.take k) vs) rfl ((unhide HROW5).alloc _) ⟨w5.heap.size, 0, none⟩ 1 1 [.string nm, .slice a5 args.length c5', .int .i64 ty] rfl rfl (three_new w5 _ _ _ 52) (by simp [Value.oneCell']) (by decide) (by unfold maxLen; omega) (by omega) (by have := (unhide HB).size; simp; omega) (w5.heap.size + 1) (by simp) ?_; intro g7 cap7 w7 hown7 hgrow7 hat7 hlt7; obtain ⟨vs', bs', hL7⟩ := unhide HNX w5 w7 _ g7 cap7 _ (unhide HB5) hs5 (unhide HO5) hgrow7 hat7 hown7; have HL7 := hide hL7; have hb7 : Below w3.heap.size (w5.alloc (.cells #[.string nm, .slice a5 args.length c5', .int .i64 ty] 52)) w7 := (Below.refl _ _).grown hgrow7 (by have := (unhide HB).size; simp; omega) (fun q hq => ((unhide HL).row.lt q hq).1); have HB7 := hide ((unhide HB).trans (((unhide HB5).mono (unhide HB).size).trans ((((Below.refl _ w5).alloc (by have := (unhide HB).size; omega) _)).trans hb7))); clear hL7 hb7 hown7 hgrow7 hat7 hlt7)
          go_roundw
          case rel => exact ⟨k + 1, vs', bs', by omega, by go_num, HL7, HB7⟩
          case measure => simp [intOf] <;> omega
        · have hek : k = ts.length := by omega
          subst hek
          have HD := hide (unhide HL).done
          go_wp2
          go_ret
          refine ⟨_, rfl, ?_, unhide HWR2⟩
          rw [unhide HRR]
          exact (unhide HD).lower (unhide HB3).size
end Go.Proofs.YtffabnmgcicpiaaGreat
