/- The walk of the law on what is hidden of a module: it returns true and turns nothing that was there. Conditions: the slice that was handed in can be read. -/
import Derived.Test.YtffabnmgcicpiaaGreatFha
import Derived.Test.YtffabnmgcicpiaaGreatFhb
import Derived.Test.YtffabnmgcicpiaaGreatDxb
import Derived.Test.YtffabnmgcicpiaaGreatGf
namespace Go.Proofs.YtffabnmgcicpiaaGreat
open Go.RowKit Go.PlainAid

theorem putR_len (s : TS) : ∀ l : List TS, (putR s l).length = l.length + 1
  | [] => rfl
  | t :: r => by
    rw [putR]
    split
    · rw [List.length_cons, putR_len s r, List.length_cons]
    · rfl
theorem putAll_len : ∀ (l acc : List TS), (l.foldl (fun acc s => putR s acc) acc).length = acc.length + l.length
  | [], acc => rfl
  | s :: r, acc => by rw [List.foldl_cons, putAll_len r, putR_len, List.length_cons]; omega
theorem putAll_mem : ∀ (l acc : List TS) (x : TS), x ∈ l.foldl (fun acc s => putR s acc) acc → x ∈ l ∨ x ∈ acc
  | [], acc, x, h => .inr h
  | s :: r, acc, x, h => by
    rcases putAll_mem r (putR s acc) x h with h | h
    · exact .inl (List.mem_cons_of_mem _ h)
    · rcases (putR_mem s x acc).1 h with rfl | h
      · exact .inl (by simp)
      · exact .inr h
/-- A face is small. -/
theorem faceL_small (m : TM) : (faceL m).length ≤ 8 ∧ ∀ s ∈ faceL m, s.name.size ≤ 8 ∧ s.args.length ≤ 4 := by
  unfold faceL
  split
  · next hok =>
    obtain ⟨h8, hfn, _⟩ := ok_funs hok
    refine ⟨?_, fun s hs => ?_⟩
    · unfold putAll
      rw [putAll_len]
      have := pubs_len m.funs
      simp
      omega
    · rcases putAll_mem _ _ _ hs with hs | hs
      · obtain ⟨f, hf, rfl⟩ := pubs_mem hs
        have := hfn f hf
        exact ⟨this.2.2, by have := this.1; simpa [sigOf] using this⟩
      · cases hs
  · exact ⟨Nat.zero_le _, fun s hs => by cases hs⟩
theorem OwnL.sigs {w : World} {lo n : Nat} {v : Value} {l : List TS} (h : OwnL w lo n v l) (hn : n ≤ w.heap.size) (hs : ∀ s ∈ l, s.name.size ≤ 8 ∧ s.args.length ≤ 4) : ∃ (a : Option Addr) (cap : Nat), v = .slice a l.length cap ∧ IsSigs (IsSig w lo w.heap.size) w lo w.heap.size a l := by
  rcases h with ⟨rfl, a, cap, hv⟩ | ⟨b, cap, vs, bs, h1, h2, h3⟩
  · exact ⟨a, cap, hv, .inl rfl⟩
  · exact ⟨_, cap, h1, h2.sigs h3 (Nat.le_refl _) hn (fun s hs' => by have := hs s hs'; unfold maxLen; omega)⟩


theorem drop_hid (fs : List TF) (j : Nat) (h : j < fs.length) : ((fs.drop j).map hidF).reverse = ((fs.drop (j + 1)).map hidF).reverse ++ [hidF fs[j]] := by
  rw [List.drop_eq_getElem_cons h, List.map_cons, List.reverse_cons]
theorem EltF.hid {h : Nat} {W : World} {x : TF} {en : ByteArray} {ep : Bool} {ea : Option Addr} {el ec : Nat} {et : Int} {c4 c5 c6 c7 c8 : Value} (hE : IsFun W 0 W.heap.size h (.agg #[.string en, .bool ep, .slice ea el ec, .int .i64 et, c4, c5, c6, c7, c8]) x) : EltF (h + 1) W (hidF x) [.string en, .bool ep, .slice ea el ec, .int .i64 et, .int .i64 1, .int .i64 7, .string ⟨#[]⟩, .string ⟨#[]⟩, .slice none 0 0] := by
  obtain ⟨aa, ca, b0, b1, b2, b3, b4, hv, hz, ha, -⟩ := hE
  simp only [Value.agg.injEq, Array.mk.injEq, List.cons.injEq, and_true] at hv
  obtain ⟨v0, v1, v2, v3, -⟩ := hv
  refine ⟨_, _, _, _, _, _, _, _, _, rfl, aa, ca, .int .i64 1, .int .i64 7, .string ⟨#[]⟩, .string ⟨#[]⟩, .slice none 0 0, ?_, hz, ha, ?_⟩
  · rw [v0, v1, v2, v3]; rfl
  · exact ⟨none, 0, rfl, ⟨Nat.zero_le _, Nat.zero_le _, Nat.zero_le _⟩, .inl rfl⟩
/-- One function more, hidden, the other way round. -/
theorem hid_more {w1 wr : World} {fa : Option Addr} {fc : Nat} {ps : List (TF × List Value)} (o : OwnD (EltF 10) 9 33 (fun b => b < w1.heap.size ∨ w1.heap.size + 2 ≤ b) (w1.heap.size + 2) wr (.slice fa ps.length fc) ps) (hz : w1.heap.size + 2 ≤ wr.heap.size) (hb : Below w1.heap.size w1 wr) (hl : ps.length ≤ 90000)
    {x : TF} {en : ByteArray} {ep : Bool} {ea : Option Addr} {el ec : Nat} {et : Int} {c4 c5 c6 c7 c8 : Value} (hx : KpD (fun b => b < w1.heap.size) w1 (fun W => IsFun W 0 W.heap.size 9 (.agg #[.string en, .bool ep, .slice ea el ec, .int .i64 et, c4, c5, c6, c7, c8]) x)) :
    ∃ (g c : Nat) (wn : World), (Builtin.append_ #[24, 24] 24 #[.slice fa ps.length fc, .slice (some ⟨wr.heap.size + 1, 0, none⟩) 1 1]).run Tryz.prog ((wr.alloc (.cells #[.string en, .bool ep, .slice ea el ec, .int .i64 et, .int .i64 1, .int .i64 7, .string ⟨#[]⟩, .string ⟨#[]⟩, .slice none 0 0] 33)).alloc (.cells #[.string en, .bool ep, .slice ea el ec, .int .i64 et, .int .i64 1, .int .i64 7, .string ⟨#[]⟩, .string ⟨#[]⟩, .slice none 0 0] 33)) = .ok (.slice (some ⟨g, 0, none⟩) (ps.length + 1) c) wn ∧
      OwnD (EltF 10) 9 33 (fun b => b < w1.heap.size ∨ w1.heap.size + 2 ≤ b) (w1.heap.size + 2) wn (.slice (some ⟨g, 0, none⟩) (ps.length + 1) c) (ps ++ [(hidF x, [.string en, .bool ep, .slice ea el ec, .int .i64 et, .int .i64 1, .int .i64 7, .string ⟨#[]⟩, .string ⟨#[]⟩, .slice none 0 0])]) ∧ Below w1.heap.size w1 wn ∧ (∀ b, b < w1.heap.size + 2 → wn.heap[b]? = wr.heap[b]?) ∧ wr.heap.size ≤ wn.heap.size := by
  obtain ⟨ie, hei, hez0, hez1, hez2⟩ := info_parts infoF
  obtain ⟨X, hX⟩ : ∃ X, X = (wr.alloc (.cells #[.string en, .bool ep, .slice ea el ec, .int .i64 et, .int .i64 1, .int .i64 7, .string ⟨#[]⟩, .string ⟨#[]⟩, .slice none 0 0] 33)).alloc (.cells #[.string en, .bool ep, .slice ea el ec, .int .i64 et, .int .i64 1, .int .i64 7, .string ⟨#[]⟩, .string ⟨#[]⟩, .slice none 0 0] 33) := ⟨_, rfl⟩
  have hXs : X.heap.size = wr.heap.size + 2 := by rw [hX]; simp
  have hbX : Below wr.heap.size wr X := by rw [hX]; exact (below_one wr _).alloc (by simp) _
  have o1 := o.staySub (StayD.below hbX) (fun g hg => .inr (o.row.lt g hg).1)
  have hbe := hb.size
  obtain ⟨g, c, wn, r, on, y, l⟩ := o1.moreW (by omega) 24 ie _ _ Tryz.underlying24 hei hez0 hez1 hez2 rfl (by omega) (by omega) ⟨wr.heap.size + 1, 0, none⟩ 1 [(hidF x, [.string en, .bool ep, .slice ea el ec, .int .i64 et, .int .i64 1, .int .i64 7, .string ⟨#[]⟩, .string ⟨#[]⟩, .slice none 0 0])] (by simp) (by
    intro p hp
    rw [List.mem_singleton] at hp
    subst hp
    refine ⟨rfl, fun u hu => ?_⟩
    simp only [List.mem_cons, List.not_mem_nil, or_false] at hu
    rcases hu with rfl | rfl | rfl | rfl | rfl | rfl | rfl | rfl | rfl <;> rfl) (fun i u hu => by
    rw [Addr.add_lit, Nat.zero_add, hX]
    have := alloc_cell (wr.alloc (.cells #[.string en, .bool ep, .slice ea el ec, .int .i64 et, .int .i64 1, .int .i64 7, .string ⟨#[]⟩, .string ⟨#[]⟩, .slice none 0 0] 33)) ([.string en, .bool ep, .slice ea el ec, .int .i64 et, .int .i64 1, .int .i64 7, .string ⟨#[]⟩, .string ⟨#[]⟩, .slice none 0 0]).toArray 33 i
    rw [alloc_size] at this
    rw [this]
    simpa using hu) (by rw [List.length_singleton]; omega) (by
    intro p hp
    rw [List.mem_singleton] at hp
    subst hp
    intro W hW
    refine EltF.hid (hx W (((StayD.below hb).trans (StayD.below hbX)).trans (hW.less (fun b _ h => ⟨.inl h, fun e => ?_⟩))))
    have := (o.row.lt b e.symm).1
    omega)
  have hyz := y.size
  rw [List.length_singleton] at r on
  refine ⟨g, c, wn, by rw [hX] at r; exact r, on, (hb.trans (hbX.mono (by omega))).grown y (by omega) (fun k hk => by have := (o.row.lt k hk).1; omega), fun b hbb => ?_, by omega⟩
  exact (y.block b (by omega) (fun e => by have := (o.row.lt b e.symm).1; omega)).trans (hbX.block b (by omega))
end Go.Proofs.YtffabnmgcicpiaaGreat
