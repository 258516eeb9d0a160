/- Texts in one: Laws, Plain, Plain2. -/
import Derived.Test.YtjhljgcdcmacmaaDoorPk1
import Derived.Laws.AppendOwnNone
import Derived.Lib.AppendStr
import Derived.Laws.CopyOwn
import Derived.WalkKit
/- What an append does to a row that the call owns, in the words of 'Own' and 'Sl'; no program is named here. -/
namespace Go.Proofs.YtjhljgcdcmacmaaDoor.Laws
open Go.RowKit Go.Proofs.YtjhljgcdcmacmaaDoor.Mem

/-- a string's bytes -/
def sb (s : ByteArray) : List Int := s.data.toList.map fun b => (b.toNat : Int)
theorem sb_len (s : ByteArray) : (sb s).length = s.size := by simp [sb]
theorem sb_cells (s : ByteArray) : Lib.strCells s = bs (sb s) := by simp [Lib.strCells, bs, sb, Function.comp_def]
theorem sb_byt (s : ByteArray) : Byt (sb s) := by
  intro x hx
  obtain ⟨b, _, rfl⟩ := List.mem_map.1 hx
  have := b.toNat_lt
  omega

theorem bs_one (xs : List Int) : ∀ u ∈ bs xs, u.oneCell' = true := ints_oneCell _ _

theorem Sl.one (w : World) (u : Value) (t : TypeId) : Sl (w.alloc (.cells #[u] t)) (.slice (some ⟨w.heap.size, 0, none⟩) 1 1) [u] := by
  refine ⟨some ⟨w.heap.size, 0, none⟩, 1, rfl, by simp, fun h => (by cases h), fun _ => ⟨w.heap.size, 0, rfl, fun j hj => ?_⟩⟩
  have hj0 : j = 0 := by simp at hj; omega
  subst hj0
  rw [cell_of_row _ w.heap.size 0 #[u] t (0, 0) (heap_alloc_new w _)]
  simp

theorem full_block {w : World} {base : Nat} {e : TypeId} {g n : Nat} {L : List Value} (h : w.ownsRow base e 1 (.slice (some ⟨g, 0, none⟩) n n) n L) : w.heap[g]? = some (.cells L.toArray e (0, 0)) := by
  obtain ⟨_, h2⟩ := h
  rcases h2 with ⟨h2, _⟩ | ⟨g', cap, cur, he, hb, hg, hnc, hcm, hcs, ht⟩
  · simp at h2
  · simp only [Value.slice.injEq, Option.some.injEq, Addr.mk.injEq, and_true, true_and] at he
    obtain ⟨rfl, rfl⟩ := he
    rw [List.take_of_length_le (by rw [Array.length_toList, hcs]; exact Nat.le_refl _)] at ht
    subst ht
    simpa using hg
theorem full_own {w : World} {base : Nat} {e : TypeId} {g n : Nat} {L : List Value} (hg : w.heap[g]? = some (.cells L.toArray e (0, 0))) (hb : base ≤ g) (hn : L.length = n) (hm : n ≤ maxLen) : w.ownsRow base e 1 (.slice (some ⟨g, 0, none⟩) n n) n L :=
  ⟨by omega, .inr ⟨g, n, L.toArray, rfl, hb, hg, Nat.le_refl _, hm, by simp [hn], by simp [← hn]⟩⟩
theorem splice_all {α : Type} {L C : List α} (h : L.length = C.length) : splice L 0 C = C := by
  unfold splice
  simp [h]

theorem wpl_app {P : Program} (w : World) {ops : Array Oper} {rest : List Oper} {o : Oper} {a : Act} {Q : Exit → Act → World → Prop}
    (hg : o.guard = none) (s x : Operand) (t : TypeId) (hop : o.op = Op.call { callee := Callee.builtin Builtin.append, args := #[s, x], argTypes := #[t, t] })
    (e : TypeId) (i : TypeInfo) (z : Value) (bytes : Nat) (ht : P.underlying t = some (.slice e)) (hi : P.info? e = some i) (hz : i.zero = some z) (hsize : i.size = 1) (hby : i.bytes = bytes) (hzs : z.cells.size = 1)
    (lo : Nat) (v : Value) (cs : List Value) (hs : a.eval s = v) (hown : Own w lo w.heap.size e v cs) (y : Value) (hx : a.eval x = y) (news : List Value) (hsl : Sl w y news)
    (h1 : ∀ u ∈ news, u.oneCell' = true) (h63 : cs.length + news.length ≤ maxLen) (hb : (cs.length + news.length) * bytes ≤ 140737488355328) (hlo : lo ≤ w.heap.size)
    (hK : ∀ v' w', Own w' lo w'.heap.size e v' (cs ++ news) → Below lo w w' → w.grownBy w' v.ownBlock → wpList P ops Q rest (a.put o.dst v') w') : wpList P ops Q (o :: rest) a w := by
  obtain ⟨ao, cap, rfl, hc, hn, hr⟩ := hsl
  have hblk : ∀ w', w.grownBy w' v.ownBlock → Below lo w w' := fun w' hg => (Below.refl _ _).grown hg hlo (fun k hk => (hown.1.lt k hk).1)
  cases ao with
  | none =>
    have hcap := hn rfl
    have hnil : news = [] := List.eq_nil_of_length_eq_zero (by omega)
    subst hnil
    subst hcap
    refine wpList_append_own_none hg s x t hop lo e i 1 ht hi v cs.length cs hs hown.1 hx ?_
    exact hK v w (by simpa using hown) (Below.refl _ _) (World.grownBy.refl _ _)
  | some ad =>
    refine wpList_append_own w hg s x t hop lo e i z 1 bytes ht hi hz hsize hby hzs (by decide) v cs.length cs hs hown.1 ad news.length cap news hx (by simp) ?_ h1 h63 hb hlo ?_
    · intro j u hj
      have hlt : j < news.length := (List.getElem?_eq_some_iff.1 hj).1
      obtain ⟨b, off, he, hcell⟩ := hr (by omega)
      obtain rfl := Option.some.inj he
      rw [Addr.add_lit, hcell j hlt, hj]
    · intro v' w' ho hgr _
      exact hK v' w' (Own.of ho) (hblk w' hgr) hgr

/-- The same as one step of a region that draws its order. -/
theorem step_app {P : Program} {ops : Array Oper} {o : Oper} {a : Act} {w : World} {K : Act → World → Prop} {Q : Exit → Act → World → Prop} {E : Prop}
    (hg : o.guard = none) (s x : Operand) (t : TypeId) (hop : o.op = Op.call { callee := Callee.builtin Builtin.append, args := #[s, x], argTypes := #[t, t] })
    (e : TypeId) (i : TypeInfo) (z : Value) (bytes : Nat) (ht : P.underlying t = some (.slice e)) (hi : P.info? e = some i) (hz : i.zero = some z) (hsize : i.size = 1) (hby : i.bytes = bytes) (hzs : z.cells.size = 1)
    (lo : Nat) (v : Value) (cs : List Value) (hs : a.eval s = v) (hown : Own w lo w.heap.size e v cs) (y : Value) (hx : a.eval x = y) (news : List Value) (hsl : Sl w y news)
    (h1 : ∀ u ∈ news, u.oneCell' = true) (h63 : cs.length + news.length ≤ maxLen) (hb : (cs.length + news.length) * bytes ≤ 140737488355328) (hlo : lo ≤ w.heap.size)
    (hK : ∀ v' w', Own w' lo w'.heap.size e v' (cs ++ news) → Below lo w w' → K (a.put o.dst v') w') : if Region.wanted o (yielded ops a.tmps) = true then Oper.wp P o a w K Q else E := by
  have hw : Region.wanted o (yielded ops a.tmps) = true := by simp [Region.wanted, hg]
  rw [if_pos hw]
  obtain ⟨ao, cap, rfl, hc, hn, hr⟩ := hsl
  have hblk : ∀ w', w.grownBy w' v.ownBlock → Below lo w w' := fun w' hg => (Below.refl _ _).grown hg hlo (fun k hk => (hown.1.lt k hk).1)
  cases ao with
  | none =>
    have hcap := hn rfl
    have hnil : news = [] := List.eq_nil_of_length_eq_zero (by omega)
    subst hnil
    subst hcap
    have hrun := run_append_owned_none (P := P) (w := w) lo t o.type e i 1 ht hi v cs.length cs hown.1
    unfold Oper.wp
    simp [execOp, hop, resolve, invoke, builtin, hs, hx, hrun, Result.andThen]
    exact hK v w (by simpa using hown) (Below.refl _ _)
  | some ad =>
    refine wp_append_own w s x t hop lo e i z 1 bytes ht hi hz hsize hby hzs (by decide) v cs.length cs hs hown.1 ad news.length cap news hx (by simp) ?_ h1 h63 hb hlo ?_
    · intro j u hj
      have hlt : j < news.length := (List.getElem?_eq_some_iff.1 hj).1
      obtain ⟨b, off, he, hcell⟩ := hr (by omega)
      obtain rfl := Option.some.inj he
      rw [Addr.add_lit, hcell j hlt, hj]
    · intro v' w' ho hgr _
      exact hK v' w' (Own.of ho) (hblk w' hgr)

theorem wpl_str {P : Program} (w : World) {ops : Array Oper} {rest : List Oper} {o : Oper} {a : Act} {Q : Exit → Act → World → Prop}
    (hg : o.guard = none) (s x : Operand) (t u : TypeId) (hop : o.op = Op.call { callee := Callee.builtin Builtin.append, args := #[s, x], argTypes := #[t, u] })
    (e : TypeId) (i : TypeInfo) (ht : P.underlying t = some (.slice e)) (hu : P.underlying u = some .string) (hi : P.info? e = some i) (hz : i.zero = some (.int .u8 0)) (hsize : i.size = 1) (hby : i.bytes = 1)
    (lo : Nat) (v : Value) (xs : List Int) (hs : a.eval s = v) (hown : Own w lo w.heap.size e v (bs xs)) (y : ByteArray) (hx : a.eval x = .string y)
    (hb : xs.length + y.size ≤ 140737488355328) (hlo : lo ≤ w.heap.size)
    (hK : ∀ v' w', Own w' lo w'.heap.size e v' (bs (xs ++ sb y)) → Below lo w w' → wpList P ops Q rest (a.put o.dst v') w') : wpList P ops Q (o :: rest) a w := by
  refine Lib.wpList_append_own_string w hg s x t u hop lo e i ht hu hi hz hsize hby v (bs xs).length (bs xs) hs hown.1 y hx (by rw [bs_len]; unfold maxLen; omega) (by rw [bs_len]; omega) hlo ?_
  intro v' w' ho hgr _
  rw [sb_cells, ← bs_app] at ho
  exact hK v' w' (Own.of ho) ((Below.refl _ _).grown hgr hlo (fun k hk => (hown.1.lt k hk).1))

end Go.Proofs.YtjhljgcdcmacmaaDoor.Laws

/- Plain lists and numbers, no program is named: numbers as groups of seven bits ('enc'), how they are read back ('dec', 'getNum'), and what the bit operations of the specification come to. -/
namespace Go.Proofs.YtjhljgcdcmacmaaDoor.Plain

/-- n, or the nearer of 0 and 1000000000. -/
def clampN (n : Int) : Int := if n < 0 then 0 else if 1000000000 < n then 1000000000 else n

theorem clampN_bd (n : Int) : 0 ≤ clampN n ∧ clampN n ≤ 1000000000 := by unfold clampN; split <;> (try split) <;> omega

/-- Groups of seven bits, the lowest first, 128 added but for the last; at most f groups more. -/
def encF : Nat → Nat → List Int
  | 0, n => [(n : Int)]
  | f + 1, n => if n < 128 then [(n : Int)] else ((n % 128 + 128 : Nat) : Int) :: encF f (n / 128)
def enc (n : Nat) : List Int := encF n n

theorem encF_any (f : Nat) : ∀ g n, n ≤ f → n ≤ g → encF f n = encF g n := by
  induction f with
  | zero =>
    intro g n h1 h2
    cases g with
    | zero => rfl
    | succ g => rw [encF, encF, if_pos (by omega)]
  | succ f ih =>
    intro g n h1 h2
    cases g with
    | zero => rw [encF, encF, if_pos (by omega)]
    | succ g =>
      rw [encF, encF]
      split
      · rfl
      · rw [ih g (n / 128) (by omega) (by omega)]
theorem enc_small {n : Nat} (h : n < 128) : enc n = [(n : Int)] := by
  unfold enc
  cases n with
  | zero => rfl
  | succ m => rw [encF, if_pos h]
theorem enc_step {n : Nat} (h : ¬ n < 128) : enc n = ((n % 128 + 128 : Nat) : Int) :: enc (n / 128) := by
  unfold enc
  obtain ⟨m, rfl⟩ : ∃ m, n = m + 1 := ⟨n - 1, by omega⟩
  rw [encF, if_neg h, encF_any m ((m + 1) / 128) ((m + 1) / 128) (by omega) (by omega)]

theorem enc_byteF (f : Nat) : ∀ n, n ≤ f → ∀ x ∈ enc n, 0 ≤ x ∧ x ≤ 255 := by
  induction f with
  | zero => intro n hn; rw [enc_small (by omega)]; simp; omega
  | succ f ih =>
    intro n hn
    by_cases h : n < 128
    · rw [enc_small h]; simp; omega
    · rw [enc_step h]
      intro x hx
      rcases List.mem_cons.1 hx with rfl | hx
      · omega
      · exact ih (n / 128) (by omega) x hx
theorem enc_byte (n : Nat) : ∀ x ∈ enc n, 0 ≤ x ∧ x ≤ 255 := enc_byteF n n (Nat.le_refl _)

theorem enc_len (n : Nat) : 1 ≤ (enc n).length := by
  by_cases h : n < 128
  · rw [enc_small h]; simp
  · rw [enc_step h]; simp
theorem enc_len5 (n : Nat) (h : n ≤ 1000000000) : (enc n).length ≤ 5 := by
  have s1 : ∀ n, n < 128 → (enc n).length = 1 := fun n h => by rw [enc_small h]; rfl
  have up : ∀ m c : Nat, (∀ k, k < m → (enc k).length ≤ c) → ∀ k, k < m * 128 → (enc k).length ≤ c + 1 := by
    intro m c hc k hk
    by_cases h1 : k < 128
    · rw [s1 k h1]; omega
    · rw [enc_step h1]; have := hc (k / 128) (by omega); simp; omega
  have a1 : ∀ k, k < 128 → (enc k).length ≤ 1 := fun k hk => by rw [s1 k hk]; omega
  have a2 := up _ _ a1
  have a3 := up _ _ a2
  have a4 := up _ _ a3
  have a5 := up _ _ a4
  exact a5 n (by omega)

/-- What is read from a list of bytes: k groups are behind, they came to N, the next one counts W. -/
def dec (k : Nat) (N W : Int) : List Int → Option (Int × Nat)
  | [] => none
  | c :: r => if k = 5 then none else if 128 ≤ c then dec (k + 1) (N + c % 128 * W) (W * 128) r
      else if 1000000000 < N + c % 128 * W ∨ (0 < k ∧ c % 128 = 0) then none else some (N + c % 128 * W, k + 1)

/-- The number at a place, the place behind, whether it is there. -/
def getNum (xs : List Int) (at_ : Int) : Int × Int × Bool :=
  if 0 ≤ at_ ∧ at_ < xs.length then match dec 0 0 1 (xs.drop at_.toNat) with
    | some (n, k) => (n, at_ + k, true)
    | none => (0, 0, false)
  else (0, 0, false)

theorem wraps_i64 (n : Int) (h0 : 0 ≤ n) (h1 : n < 2 ^ 62) : IntKind.i64.wrap n = n := by rw [IntKind.wrap_i64]; omega

theorem and127 {n : Int} (h0 : 0 ≤ n) (h1 : n ≤ 1000000000) : bits .and .i64 n 127 = n % 128 := bits_mask .i64 62 (by decide) wraps_i64 7 (by decide) n h0 (by omega)
theorem or128 {n : Int} (h0 : 0 ≤ n) (h1 : n < 128) : bits .or .i64 n 128 = n + 128 := by
  obtain ⟨a, rfl⟩ := Int.eq_ofNat_of_zero_le h0
  have ha : a < 2 ^ 7 := by omega
  have h := (bits_nat .i64 62 (by decide) wraps_i64 a 128 (by omega) (by decide)).2
  have h2 := Nat.two_pow_add_eq_or_of_lt ha 1
  have e : (128 : Int) = ((128 : Nat) : Int) := rfl
  rw [e, h, Nat.or_comm]
  have h3 : (128 : Nat) ||| a = 128 + a := by simpa using h2.symm
  rw [h3]; omega
/-- A number below 128^k, and groups above it, by 'or'. -/
theorem or_join {N c : Int} {k : Nat} (hk : k < 5) (h0 : 0 ≤ N) (h1 : N < 128 ^ k) (hc0 : 0 ≤ c) (hc1 : c < 128) : bits .or .i64 N (c * 2 ^ (7 * k)) = N + c * 128 ^ k := by
  obtain ⟨a, rfl⟩ := Int.eq_ofNat_of_zero_le h0
  obtain ⟨b, rfl⟩ := Int.eq_ofNat_of_zero_le hc0
  have e : (128 : Int) ^ k = 2 ^ (7 * k) := by rw [Int.pow_mul]; rfl
  have en : (128 : Nat) ^ k = 2 ^ (7 * k) := by rw [Nat.pow_mul]
  have hp : (2 : Nat) ^ (7 * k) ≤ 2 ^ 28 := Nat.pow_le_pow_right (by decide) (by omega)
  have ha : a < 2 ^ (7 * k) := by rw [e] at h1; exact_mod_cast h1
  have hb : b < 128 := by omega
  have hx : b * 2 ^ (7 * k) < 2 ^ 35 := by
    have h3 : b * 2 ^ (7 * k) ≤ 127 * 2 ^ 28 := Nat.mul_le_mul (by omega) hp
    omega
  have h := (bits_nat .i64 62 (by decide) wraps_i64 a (b * 2 ^ (7 * k)) (by omega) (by omega)).2
  have hcast : ((b : Int) * 2 ^ (7 * k)) = ((b * 2 ^ (7 * k) : Nat) : Int) := by push_cast; rfl
  rw [e]
  rw [hcast, h, Nat.or_comm, Nat.mul_comm b, ← Nat.two_pow_add_eq_or_of_lt ha b]
  push_cast; omega

end Go.Proofs.YtjhljgcdcmacmaaDoor.Plain

/- Plain lists and numbers: texts behind their lengths, and what is known of a number that was read. -/
namespace Go.Proofs.YtjhljgcdcmacmaaDoor.Plain
open Go.Proofs.YtjhljgcdcmacmaaDoor.Mem

theorem dec_bd (l : List Int) : ∀ (k : Nat) (N W : Int) (n : Int) (j : Nat), 0 ≤ N → 0 ≤ W → dec k N W l = some (n, j) → 0 ≤ n ∧ n ≤ 1000000000 ∧ k < j ∧ j ≤ k + l.length := by
  induction l with
  | nil => intro k N W n j _ _ h; simp [dec] at h
  | cons c r ih =>
    intro k N W n j hN hW h
    have hp : 0 ≤ c % 128 * W := Int.mul_nonneg (by omega) hW
    rw [dec] at h
    split at h
    · simp at h
    · split at h
      · have := ih (k + 1) _ _ n j (by omega) (by omega) h
        simp only [List.length_cons]
        omega
      · split at h
        · simp at h
        · simp only [Option.some.injEq, Prod.mk.injEq] at h
          obtain ⟨rfl, rfl⟩ := h
          simp only [List.length_cons]
          omega

theorem getNum_bd {xs : List Int} {at_ n p : Int} (h : getNum xs at_ = (n, p, true)) : 0 ≤ n ∧ n ≤ 1000000000 ∧ 0 < p ∧ p ≤ xs.length ∧ 0 ≤ at_ ∧ at_ < p := by
  unfold getNum at h
  split at h
  · rename_i hr
    split at h
    · rename_i n' k hd
      simp only [Prod.mk.injEq, and_true] at h
      obtain ⟨rfl, rfl⟩ := h
      have := dec_bd _ 0 0 1 _ _ (by omega) (by omega) hd
      have hl : (xs.drop at_.toNat).length = xs.length - at_.toNat := List.length_drop
      omega
    · simp at h
  · simp at h

/-- bytes as a text -/
def u8s (xs : List Int) : List UInt8 := xs.map fun x => UInt8.ofNat x.toNat
def txt (xs : List Int) : ByteArray := ⟨(u8s xs).toArray⟩
theorem u8s_len (xs : List Int) : (u8s xs).length = xs.length := by simp [u8s]
theorem u8_back {x : Int} (h : 0 ≤ x ∧ x ≤ 255) : ((UInt8.ofNat x.toNat).toNat : Int) = x := by
  rw [UInt8.toNat_ofNat']
  omega

/-- The text at a place, the place behind, whether it is there. -/
def getText (xs : List Int) (at_ : Int) : ByteArray × Int × Bool :=
  if (getNum xs at_).2.2 = true ∧ (getNum xs at_).1 ≤ xs.length - (getNum xs at_).2.1 then
    (txt ((xs.drop (getNum xs at_).2.1.toNat).take (getNum xs at_).1.toNat), (getNum xs at_).2.1 + (getNum xs at_).1, true)
  else (⟨#[]⟩, 0, false)

theorem getText_no {xs : List Int} {at_ n p : Int} {ok : Bool} (h : getNum xs at_ = (n, p, ok)) (hb : ok = false ∨ (xs.length : Int) - p < n) : getText xs at_ = (⟨#[]⟩, 0, false) := by
  unfold getText
  rw [h, if_neg]
  rintro ⟨h1, h2⟩
  simp only at h1 h2
  rcases hb with hb | hb
  · rw [hb] at h1; simp at h1
  · omega
theorem getText_yes {xs : List Int} {at_ : Int} {n p : Nat} (h : getNum xs at_ = ((n : Int), (p : Int), true)) (hb : (n : Int) ≤ xs.length - (p : Int)) : getText xs at_ = (txt ((xs.drop p).take n), (p : Int) + (n : Int), true) := by
  unfold getText
  rw [h, if_pos ⟨rfl, hb⟩]
  rfl

theorem getText_bd {xs : List Int} {at_ p : Int} {s : ByteArray} (h : getText xs at_ = (s, p, true)) : 0 < p ∧ p ≤ xs.length ∧ s.size ≤ xs.length ∧ 0 ≤ at_ ∧ at_ < p := by
  unfold getText at h
  split at h
  · rename_i hc
    obtain ⟨n, q, ok, hg⟩ : ∃ n q ok, getNum xs at_ = (n, q, ok) := ⟨_, _, _, rfl⟩
    rw [hg] at h hc
    simp only at h hc
    obtain ⟨rfl, hc2⟩ := hc
    have hb := getNum_bd hg
    simp only [Prod.mk.injEq, and_true] at h
    obtain ⟨rfl, rfl⟩ := h
    refine ⟨by omega, by omega, ?_, by omega, by omega⟩
    show (txt _).data.size ≤ _
    simp [txt, u8s]
    omega
  · simp at h

/-- n texts, one behind the other, from a place on; and the place behind. -/
def rd (xs : List Int) : Nat → Int → Option (List ByteArray × Int)
  | 0, p => some ([], p)
  | n + 1, p => if (getText xs p).2.2 = true then (rd xs n (getText xs p).2.1).map fun r => ((getText xs p).1 :: r.1, r.2) else none

theorem rd_no {xs : List Int} {n : Nat} {p q : Int} {s : ByteArray} (h : getText xs p = (s, q, false)) : rd xs (n + 1) p = none := by
  rw [rd, h]; rfl
theorem rd_yes {xs : List Int} {n : Nat} {p q : Int} {s : ByteArray} (h : getText xs p = (s, q, true)) : rd xs (n + 1) p = (rd xs n q).map fun r => (s :: r.1, r.2) := by
  rw [rd, h]; rfl

/-- The texts at a place (at most 200), the place behind, whether they are there. -/
def getTexts (xs : List Int) (at_ : Int) : List ByteArray × Int × Bool :=
  if (getNum xs at_).2.2 = true ∧ (getNum xs at_).1 ≤ 200 then
    match rd xs (getNum xs at_).1.toNat (getNum xs at_).2.1 with
    | some (l, q) => (l, q, true)
    | none => ([], 0, false)
  else ([], 0, false)

theorem getTexts_no {xs : List Int} {at_ n p : Int} {ok : Bool} (h : getNum xs at_ = (n, p, ok)) (hb : ok = false ∨ 200 < n) : getTexts xs at_ = ([], 0, false) := by
  unfold getTexts
  rw [h, if_neg]
  rintro ⟨h1, h2⟩
  simp only at h1 h2
  rcases hb with hb | hb
  · rw [hb] at h1; simp at h1
  · omega
theorem getTexts_none {xs : List Int} {at_ p : Int} {n : Nat} (h : getNum xs at_ = ((n : Int), p, true)) (hn : n ≤ 200) (hr : rd xs n p = none) : getTexts xs at_ = ([], 0, false) := by
  unfold getTexts
  rw [h, if_pos ⟨rfl, by simp only; omega⟩]
  simp [hr]
theorem getTexts_some {xs : List Int} {at_ p q : Int} {n : Nat} {l : List ByteArray} (h : getNum xs at_ = ((n : Int), p, true)) (hn : n ≤ 200) (hr : rd xs n p = some (l, q)) : getTexts xs at_ = (l, q, true) := by
  unfold getTexts
  rw [h, if_pos ⟨rfl, by simp only; omega⟩]
  simp [hr]

theorem rd_len (xs : List Int) (n : Nat) : ∀ (p q : Int) (l : List ByteArray), rd xs n p = some (l, q) → l.length = n := by
  induction n with
  | zero => intro p q l h; simp [rd] at h; rw [h.1]; rfl
  | succ n ih =>
    intro p q l h
    rw [rd] at h
    split at h
    · rw [Option.map_eq_some_iff] at h
      obtain ⟨⟨l2, q2⟩, h1, h2⟩ := h
      simp only [Prod.mk.injEq] at h2
      rw [← h2.1, List.length_cons, ih _ _ _ h1]
    · simp at h
theorem getTexts_len (xs : List Int) (at_ : Int) : (getTexts xs at_).1.length ≤ 200 := by
  unfold getTexts
  split
  · rename_i hc
    split
    · rename_i l q hr
      have := rd_len xs _ _ _ _ hr
      simp only
      omega
    · simp
  · simp

end Go.Proofs.YtjhljgcdcmacmaaDoor.Plain
