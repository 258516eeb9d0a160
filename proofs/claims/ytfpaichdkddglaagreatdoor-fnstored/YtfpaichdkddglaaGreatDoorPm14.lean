/- Texts in one: Crs2, SrH. -/
import Derived.Test.YtfpaichdkddglaaGreatDoorPm10
import Derived.Test.YtfpaichdkddglaaGreatDoorPm13
import Derived.Test.YtfpaichdkddglaaGreatDoorPm12
import Derived.Test.YtfpaichdkddglaaGreatDoorPm9
import Derived.Test.YtfpaichdkddglaaGreatDoorPm8
namespace Go.Proofs.YtfpaichdkddglaaGreatDoor.Sr
open Go.RowKit Go.Proofs.YtfpaichdkddglaaGreatDoor.Mem Go.Proofs.YtfpaichdkddglaaGreatDoor.Laws Go.Proofs.YtfpaichdkddglaaGreatDoor.Bytes Go.Proofs.YtfpaichdkddglaaGreatDoor.Sha Go.Proofs.YtfpaichdkddglaaGreatDoor.Tr Go.Proofs.YtfpaichdkddglaaGreatDoor.Draw Go.Proofs.YtfpaichdkddglaaGreatDoor.He Go.Proofs.YtfpaichdkddglaaGreatDoor.Lg
set_option linter.unusedVariables false
set_option linter.unusedSimpArgs false
theorem lit1S (w : World) (lo : Nat) (x : ByteArray) (h : lo ≤ w.heap.size) : Own (w.alloc (.cells #[.string x] 9)) lo (w.alloc (.cells #[.string x] 9)).heap.size 9 (.slice (some ⟨w.heap.size, 0, none⟩) 1 1) (ss [x]) :=
 Own.of (World.ownsRow_lit w #[.string x] 1 h (by unfold maxLen; omega) rfl)
theorem Apart.gro {lo hi : Nat} {a w w' : World} {r : Option Nat} (h : Apart lo hi a w) (g : w.grownBy w' r) (hr : ∀ k, r = some k → a.heap.size ≤ k) : Apart lo hi a w' :=
 h.on (belowGro (Below.refl a.heap.size w) g h.size hr)
theorem Own.far {w : World} {lo hi lo' hi' : Nat} {e : TypeId} {v : Value} {cs : List Value} (h : Own w lo hi e v cs) (d : hi ≤ lo' ∨ hi' ≤ lo) : ∀ k, v.ownBlock = some k → k < lo' ∨ hi' ≤ k := fun k hk => by
 have h1 := (h.1.lt k hk).1
 have h2 := h.2 k hk
 omega
def Oht (w : World) (lo hi : Nat) (v : Value) (t : List Hd) : Prop := Oh w lo hi v t ∧ hi ≤ w.heap.size
theorem Oht.later {w w' : World} {lo hi : Nat} {v : Value} {t : List Hd} (h : Oht w lo hi v t) (b : Below w.heap.size w w') : Oht w' lo hi v t := ⟨h.1.later b h.2, Nat.le_trans h.2 b.size⟩
theorem Oht.drawn {W0 w w' : World} {g lo hi : Nat} {vb : Value} {xs : List Int} {v : Value} {t : List Hd} (h : Oht w lo hi v t) (d : Drawn W0 w g vb xs w') (hgl : g < lo ∨ hi ≤ g) : Oht w' lo hi v t := ⟨Oh.drawn h.1 d hgl h.2, Nat.le_trans h.2 d.apart.size⟩
theorem Oht.gro {w w' : World} {lo hi : Nat} {v : Value} {t : List Hd} {r : Option Nat} (h : Oht w lo hi v t) (g : w.grownBy w' r) (hr : ∀ k, r = some k → k < lo ∨ hi ≤ k) : Oht w' lo hi v t :=
 ⟨On.keep h.1 fun k h1 h2 => g.block k (by have := h.2; omega) (fun e => by have := hr k e.symm; omega), Nat.le_trans h.2 g.size⟩
theorem Oht.wide {w : World} {lo hi lo' : Nat} {v : Value} {t : List Hd} (h : Oht w lo hi v t) (h1 : lo' ≤ lo) : Oh w lo' w.heap.size v t := On.mono h.1 h1 h.2
theorem wpl_elemG {P : Program} {ops : Array Oper} {rest : List Oper} {op : Oper} {a : Act} {w : World} {Q : Exit → Act → World → Prop} (hgd : op.guard = none) (ty : TypeId) (x y : Operand) (ho : op.op = .store ty x y) {lo hi gb n cap k : Nat} {e : TypeId} {cs : List Value}
  (o : Own w lo hi e (.slice (some ⟨gb, 0, none⟩) n cap) cs) (hk : k < cs.length) (v : Value) (hx : a.eval x = .pointer (some ⟨gb, k, none⟩)) (hy : a.eval y = v) (hin : (P.info? ty).map (·.size) = some 1) (h1 : v.oneCell' = true)
  (h : ∀ w', Own w' lo hi e (.slice (some ⟨gb, 0, none⟩) n cap) (cs.set k v) → w.grownBy w' (some gb) → wpList P ops Q rest (a.put op.dst undef) w') : wpList P ops Q (op :: rest) a w :=
 wpList_plain hgd fun _ hK => wp_elemG ty x y ho o hk v hx hy hin h1 (fun w' r g => hK _ _ (h w' r g))
theorem slZ (w : World) (a : Addr) (c : Nat) : Sl w (.slice (some a) 0 c) (ss []) :=
 ⟨some a, c, rfl, Nat.zero_le _, (fun h => (by cases h)), (fun h => absurd h (by simp [ss]))⟩
theorem res_ctct {P : Program} {fn : Func} {p q u x : Tmp} {ty tz : TypeId} (h : fn.results = #[.cell p ty, .tmp q, .cell u tz, .tmp x]) (tmps : Array Value) (w : World) (g1 g2 : Nat) (t1 t2 : TypeId) (c1 c2 : Array Value) (d1 d2 : TypeDesc)
  (hp : tmps.getD p undef = .pointer (some ⟨g1, 0, none⟩)) (hg1 : w.heap[g1]? = some (.cells c1 t1 (0, 0))) (hu1 : P.underlying ty = some d1) (hd1 : (match d1 with | .struct _ | .array _ _ => true | _ => false) = true) (hi1 : (P.info? ty).map (·.size) = some c1.size)
  (hq : tmps.getD u undef = .pointer (some ⟨g2, 0, none⟩)) (hg2 : w.heap[g2]? = some (.cells c2 t2 (0, 0))) (hu2 : P.underlying tz = some d2) (hd2 : (match d2 with | .struct _ | .array _ _ => true | _ => false) = true) (hi2 : (P.info? tz).map (·.size) = some c2.size) :
  (results fn tmps).run P w = .ok (.tuple #[.agg c1, tmps.getD q undef, .agg c2, tmps.getD x undef]) w := by
 have hp' : tmps[p]?.getD undef = .pointer (some ⟨g1, 0, none⟩) := by simpa using hp
 have hq' : tmps[u]?.getD undef = .pointer (some ⟨g2, 0, none⟩) := by simpa using hq
 simp [results, h, hp', hq', asAddr, run_loadVar_row w g1 t1 ty c1 (0, 0) d1 hg1 hu1 hd1 hi1, run_loadVar_row w g2 t2 tz c2 (0, 0) d2 hg2 hu2 hd2 hi2]
theorem res_r2 {P : Program} {fn : Func} {p q u : Tmp} {ty : TypeId} (h : fn.results = #[.cell p ty, .tmp q, .tmp u]) (tmps : Array Value) (w : World) (g1 : Nat) (t : TypeId) (c1 : Array Value) (fr : Nat × Nat) (d : TypeDesc)
  (hp : tmps.getD p undef = .pointer (some ⟨g1, 0, none⟩)) (hg1 : w.heap[g1]? = some (.cells c1 t fr))
  (hu : P.underlying ty = some d) (hd : (match d with | .struct _ | .array _ _ => true | _ => false) = true) (hi1 : (P.info? ty).map (·.size) = some c1.size) :
  (results fn tmps).run P w = .ok (.tuple #[.agg c1, tmps.getD q undef, tmps.getD u undef]) w := by
 have hp' : tmps[p]?.getD undef = .pointer (some ⟨g1, 0, none⟩) := by simpa using hp
 simp [results, h, hp', asAddr, run_loadVar_row w g1 t ty c1 fr d hg1 hu hd hi1]
theorem slMidT {w : World} {b off L cap : Nat} {l : List ByteArray} (h : Sl w (.slice (some ⟨b, off, none⟩) L cap) (ss l)) (q m : Nat) (hq : q < l.length) (hm : q + m ≤ l.length) : Sl w (.slice (some ⟨b, off + q, none⟩) m (cap - q)) (ss ((l.drop q).take m)) := by
 have h1 := slBack h q (by rw [ss_len]; omega)
 have h2 := Sl.front h1 m (by rw [List.length_drop, ss_len]; omega)
 have e : ss ((l.drop q).take m) = ((ss l).drop q).take m := by unfold ss; rw [List.map_take, List.map_drop]
 rw [e]
 exact h2
structure Dst (t : List Hd) (A i : Nat) (st : Sto) : Prop where
 made : Made t st
 len : st.l.length ≤ A
 sz : ∀ s ∈ st.l, s.size ≤ 3
 lo : 0 ≤ st.s
 hi : st.s ≤ (st.b.length : Int)
 bl : st.b.length + i * 10009 ≤ 30027
theorem Dst.new (t : List Hd) (A : Nat) {i : Nat} (hi : i ≤ 3) : Dst t A i new12 := ⟨made_new t, Nat.zero_le _, fun s hs => (by cases hs), Int.le_refl _, by simp [new12], by simp [new12]; omega⟩
theorem Dst.head {t : List Hd} {A i : Nat} {st : Sto} (h : Dst t A i st) : st.h.r.size ≤ 32 := by
 have := (logOk_yes h.made.1.1).2
 rw [this]
 exact headOf_size _
theorem body_le9 {h : Hd} {x : List ByteArray} (hh : h.r.size ≤ 32) (hx : x.length ≤ 9) (hz : ∀ s ∈ x, s.size ≤ 3) : (body h x).length ≤ 10000 := by
 have h9 := body_len h x
 have ht : ∀ l : List ByteArray, (∀ s ∈ l, s.size ≤ 3) → Puts.tot l ≤ 3 * l.length := by
  intro l
  induction l with
  | nil => intro _; exact Nat.le_refl _
  | cons a r ih =>
   intro hl
   have h1 := hl a (List.mem_cons_self ..)
   have h2 := ih (fun s hs => hl s (List.mem_cons_of_mem _ hs))
   simp only [Puts.tot, List.length_cons]
   omega
 have := ht x hz
 omega
theorem Dst.step {t : List Hd} {A i : Nat} {st : Sto} {h : Hd} {x : List ByteArray} (hd : Dst t A (i + 1) st) (hi3 : i + 1 ≤ 3) (hx : st.l.length + x.length ≤ A) (hA : A ≤ 9) (hz : ∀ s ∈ x, s.size ≤ 3) (hh : h.r.size ≤ 32) : Dst t A i (commit1 st t h x).1 := by
 have hb := body_le9 hh (by omega) hz
 have hbl := hd.bl
 rw [Nat.add_mul, Nat.one_mul] at hbl
 by_cases hc : (commit1 st t h x).2 = 0
 ·
  obtain ⟨_, _, _, _, _, _, c7⟩ := commit1_good hc
  have hm := made_commit hd.made hc (by omega)
  have hp := put_len h x
  rw [c7] at hm ⊢
  refine ⟨hm, by rw [List.length_append]; exact hx, ?_, hd.lo, ?_, ?_⟩
  ·
   intro s hs
   rcases List.mem_append.1 hs with h1 | h1
   ·
    exact hd.sz s h1
   ·
    exact hz s h1
  ·
   have := hd.hi
   simp only [List.length_append]
   omega
  ·
   simp only [List.length_append]
   omega
 ·
  have : (commit1 st t h x).1 = st := by
   unfold commit1 at hc ⊢
   split
   ·
    rename_i h9; rw [if_pos h9] at hc; exact absurd rfl hc
   ·
    rfl
  rw [this]
  exact ⟨hd.made, hd.len, hd.sz, hd.lo, hd.hi, Nat.le_trans (Nat.add_le_add_left (Nat.mul_le_mul_right 10009 (Nat.le_succ i)) _) hd.bl⟩
theorem Dst.down {t : List Hd} {A i : Nat} {st : Sto} (hd : Dst t A (i + 1) st) : Dst t A i st := ⟨hd.made, hd.len, hd.sz, hd.lo, hd.hi, Nat.le_trans (Nat.add_le_add_left (Nat.mul_le_mul_right 10009 (Nat.le_succ i)) _) hd.bl⟩
theorem Dst.sure {t : List Hd} {A i : Nat} {st : Sto} (hd : Dst t A i st) : Dst t A i ⟨st.l, st.h, st.b, (st.b.length : Int)⟩ := ⟨made_sure hd.made _, hd.len, hd.sz, by simp, Int.le_refl _, hd.bl⟩
end Go.Proofs.YtfpaichdkddglaaGreatDoor.Sr
namespace Go.Proofs.YtfpaichdkddglaaGreatDoor.Sr
open Go.RowKit Go.Proofs.YtfpaichdkddglaaGreatDoor.Mem Go.Proofs.YtfpaichdkddglaaGreatDoor.Laws Go.Proofs.YtfpaichdkddglaaGreatDoor.Bytes Go.Proofs.YtfpaichdkddglaaGreatDoor.Sha Go.Proofs.YtfpaichdkddglaaGreatDoor.Tr Go.Proofs.YtfpaichdkddglaaGreatDoor.He Go.Proofs.YtfpaichdkddglaaGreatDoor.Lg
set_option linter.unusedVariables false
set_option linter.unusedSimpArgs false
theorem pairN {w : World} {lo hi : Nat} {v vb : Value} {cs ds : List Value} (h : Own w lo hi 9 v cs) (k : Own w lo hi 5 vb ds) (hh : lo ≤ hi) : ∃ l1 h1 l2 h2, lo ≤ l1 ∧ l1 ≤ h1 ∧ h1 ≤ hi ∧ lo ≤ l2 ∧ l2 ≤ h2 ∧ h2 ≤ hi ∧ (h1 ≤ l2 ∨ h2 ≤ l1) ∧ Own w l1 h1 9 v cs ∧ Own w l2 h2 5 vb ds := by
 have one : ∀ (e : TypeId) (u : Value) (es : List Value), Own w lo hi e u es → ∃ l1 h1, lo ≤ l1 ∧ l1 ≤ h1 ∧ h1 ≤ hi ∧ Own w l1 h1 e u es ∧ (l1 = h1 ∧ l1 = lo ∨ h1 = l1 + 1 ∧ u.ownBlock = some l1) := by
  intro e u es ho
  obtain ⟨⟨h1, h2⟩, h3⟩ := ho
  rcases h2 with ⟨rfl, h0⟩ | ⟨g, cap, cur, rfl, hb, hg, q⟩
  ·
   exact ⟨lo, lo, Nat.le_refl _, Nat.le_refl _, hh, ⟨⟨h1, Or.inl ⟨rfl, h0⟩⟩, fun g hg => by simp [Value.ownBlock] at hg⟩, Or.inl ⟨rfl, rfl⟩⟩
  ·
   have hl := h3 g rfl
   exact ⟨g, g + 1, hb, by omega, hl, ⟨⟨h1, Or.inr ⟨g, cap, cur, rfl, Nat.le_refl _, hg, q⟩⟩, fun g' hg' => by simp [Value.ownBlock] at hg'; omega⟩, Or.inr ⟨rfl, rfl⟩⟩
 obtain ⟨l1, h1, a1, a2, a3, a4, a5⟩ := one 9 v cs h
 obtain ⟨l2, h2, b1, b2, b3, b4, b5⟩ := one 5 vb ds k
 refine ⟨l1, h1, l2, h2, a1, a2, a3, b1, b2, b3, ?_, a4, b4⟩
 rcases a5 with a5 | ⟨a5, a6⟩
 ·
  omega
 ·
  rcases b5 with b5 | ⟨b5, b6⟩
  ·
   omega
  ·
   have hne := Own.neOwn h k (by decide) l2 b6
   have : l1 ≠ l2 := fun e => hne (by rw [a6, e])
   omega
def Apart2 (l1 h1 l2 h2 : Nat) (w w' : World) : Prop := ∃ m, Apart l1 h1 w m ∧ Apart l2 h2 m w'
theorem Apart2.size {l1 h1 l2 h2 : Nat} {w w' : World} (h : Apart2 l1 h1 l2 h2 w w') : w.heap.size ≤ w'.heap.size := by
 obtain ⟨m, a, b⟩ := h
 exact Nat.le_trans a.size b.size
theorem Apart2.block {l1 h1 l2 h2 : Nat} {w w' : World} (h : Apart2 l1 h1 l2 h2 w w') (k : Nat) (hk : k < w.heap.size) (d1 : k < l1 ∨ h1 ≤ k) (d2 : k < l2 ∨ h2 ≤ k) : w'.heap[k]? = w.heap[k]? := by
 obtain ⟨m, a, b⟩ := h
 rw [b.block k (Nat.lt_of_lt_of_le hk a.size) (by omega), a.block k hk (by omega)]
theorem Apart2.below {l1 h1 l2 h2 B : Nat} {w w' : World} (h : Apart2 l1 h1 l2 h2 w w') (d1 : B ≤ l1) (d2 : B ≤ l2) (hB : B ≤ w.heap.size) : Below B w w' := by
 obtain ⟨m, a, b⟩ := h
 exact (a.below d1 hB).trans (b.below d2 (Nat.le_trans hB a.size))
end Go.Proofs.YtfpaichdkddglaaGreatDoor.Sr
