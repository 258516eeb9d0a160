/- Texts in one: Laws, Puts, Gets, Plain3. -/
import Derived.Test.YtfpaichdkddglabDoorPk2
import Derived.Test.YtfpaichdkddglabDoorPk3
import Derived.Test.YtfpaichdkddglabDoorPk1
import Derived.Laws.AppendOwnNone
import Derived.Lib.AppendStr
import Derived.Laws.CopyOwn
/- What an append does to a row that the call owns, in the words of 'Own' and 'Sl'; no program is named here. -/
namespace Go.Proofs.YtfpaichdkddglabDoor.Laws
open Go.RowKit Go.Proofs.YtfpaichdkddglabDoor.Mem

/-- a string's bytes -/
def sb (s : ByteArray) : List Int := s.data.toList.map fun b => (b.toNat : Int)
theorem sb_len (s : ByteArray) : (sb s).length = s.size := by simp [sb]
theorem sb_cells (s : ByteArray) : Lib.strCells s = bs (sb s) := by simp [Lib.strCells, bs, sb, Function.comp_def]
theorem sb_byt (s : ByteArray) : Byt (sb s) := by
  intro x hx
  obtain ⟨b, _, rfl⟩ := List.mem_map.1 hx
  have := b.toNat_lt
  omega

theorem bs_one (xs : List Int) : ∀ u ∈ bs xs, u.oneCell' = true := ints_oneCell _ _

theorem Sl.one (w : World) (u : Value) (t : TypeId) : Sl (w.alloc (.cells #[u] t)) (.slice (some ⟨w.heap.size, 0, none⟩) 1 1) [u] := by
  refine ⟨some ⟨w.heap.size, 0, none⟩, 1, rfl, by simp, fun h => (by cases h), fun _ => ⟨w.heap.size, 0, rfl, fun j hj => ?_⟩⟩
  have hj0 : j = 0 := by simp at hj; omega
  subst hj0
  rw [cell_of_row _ w.heap.size 0 #[u] t (0, 0) (heap_alloc_new w _)]
  simp

theorem full_block {w : World} {base : Nat} {e : TypeId} {g n : Nat} {L : List Value} (h : w.ownsRow base e 1 (.slice (some ⟨g, 0, none⟩) n n) n L) : w.heap[g]? = some (.cells L.toArray e (0, 0)) := by
  obtain ⟨_, h2⟩ := h
  rcases h2 with ⟨h2, _⟩ | ⟨g', cap, cur, he, hb, hg, hnc, hcm, hcs, ht⟩
  · simp at h2
  · simp only [Value.slice.injEq, Option.some.injEq, Addr.mk.injEq, and_true, true_and] at he
    obtain ⟨rfl, rfl⟩ := he
    rw [List.take_of_length_le (by rw [Array.length_toList, hcs]; exact Nat.le_refl _)] at ht
    subst ht
    simpa using hg
theorem full_own {w : World} {base : Nat} {e : TypeId} {g n : Nat} {L : List Value} (hg : w.heap[g]? = some (.cells L.toArray e (0, 0))) (hb : base ≤ g) (hn : L.length = n) (hm : n ≤ maxLen) : w.ownsRow base e 1 (.slice (some ⟨g, 0, none⟩) n n) n L :=
  ⟨by omega, .inr ⟨g, n, L.toArray, rfl, hb, hg, Nat.le_refl _, hm, by simp [hn], by simp [← hn]⟩⟩
theorem splice_all {α : Type} {L C : List α} (h : L.length = C.length) : splice L 0 C = C := by
  unfold splice
  simp [h]

theorem wpl_app {P : Program} (w : World) {ops : Array Oper} {rest : List Oper} {o : Oper} {a : Act} {Q : Exit → Act → World → Prop}
    (hg : o.guard = none) (s x : Operand) (t : TypeId) (hop : o.op = Op.call { callee := Callee.builtin Builtin.append, args := #[s, x], argTypes := #[t, t] })
    (e : TypeId) (i : TypeInfo) (z : Value) (bytes : Nat) (ht : P.underlying t = some (.slice e)) (hi : P.info? e = some i) (hz : i.zero = some z) (hsize : i.size = 1) (hby : i.bytes = bytes) (hzs : z.cells.size = 1)
    (lo : Nat) (v : Value) (cs : List Value) (hs : a.eval s = v) (hown : Own w lo w.heap.size e v cs) (y : Value) (hx : a.eval x = y) (news : List Value) (hsl : Sl w y news)
    (h1 : ∀ u ∈ news, u.oneCell' = true) (h63 : cs.length + news.length ≤ maxLen) (hb : (cs.length + news.length) * bytes ≤ 140737488355328) (hlo : lo ≤ w.heap.size)
    (hK : ∀ v' w', Own w' lo w'.heap.size e v' (cs ++ news) → Below lo w w' → w.grownBy w' v.ownBlock → wpList P ops Q rest (a.put o.dst v') w') : wpList P ops Q (o :: rest) a w := by
  obtain ⟨ao, cap, rfl, hc, hn, hr⟩ := hsl
  have hblk : ∀ w', w.grownBy w' v.ownBlock → Below lo w w' := fun w' hg => (Below.refl _ _).grown hg hlo (fun k hk => (hown.1.lt k hk).1)
  cases ao with
  | none =>
    have hcap := hn rfl
    have hnil : news = [] := List.eq_nil_of_length_eq_zero (by omega)
    subst hnil
    subst hcap
    refine wpList_append_own_none hg s x t hop lo e i 1 ht hi v cs.length cs hs hown.1 hx ?_
    exact hK v w (by simpa using hown) (Below.refl _ _) (World.grownBy.refl _ _)
  | some ad =>
    refine wpList_append_own w hg s x t hop lo e i z 1 bytes ht hi hz hsize hby hzs (by decide) v cs.length cs hs hown.1 ad news.length cap news hx (by simp) ?_ h1 h63 hb hlo ?_
    · intro j u hj
      have hlt : j < news.length := (List.getElem?_eq_some_iff.1 hj).1
      obtain ⟨b, off, he, hcell⟩ := hr (by omega)
      obtain rfl := Option.some.inj he
      rw [Addr.add_lit, hcell j hlt, hj]
    · intro v' w' ho hgr _
      exact hK v' w' (Own.of ho) (hblk w' hgr) hgr

/-- The same as one step of a region that draws its order. -/
theorem step_app {P : Program} {ops : Array Oper} {o : Oper} {a : Act} {w : World} {K : Act → World → Prop} {Q : Exit → Act → World → Prop} {E : Prop}
    (hg : o.guard = none) (s x : Operand) (t : TypeId) (hop : o.op = Op.call { callee := Callee.builtin Builtin.append, args := #[s, x], argTypes := #[t, t] })
    (e : TypeId) (i : TypeInfo) (z : Value) (bytes : Nat) (ht : P.underlying t = some (.slice e)) (hi : P.info? e = some i) (hz : i.zero = some z) (hsize : i.size = 1) (hby : i.bytes = bytes) (hzs : z.cells.size = 1)
    (lo : Nat) (v : Value) (cs : List Value) (hs : a.eval s = v) (hown : Own w lo w.heap.size e v cs) (y : Value) (hx : a.eval x = y) (news : List Value) (hsl : Sl w y news)
    (h1 : ∀ u ∈ news, u.oneCell' = true) (h63 : cs.length + news.length ≤ maxLen) (hb : (cs.length + news.length) * bytes ≤ 140737488355328) (hlo : lo ≤ w.heap.size)
    (hK : ∀ v' w', Own w' lo w'.heap.size e v' (cs ++ news) → Below lo w w' → K (a.put o.dst v') w') : if Region.wanted o (yielded ops a.tmps) = true then Oper.wp P o a w K Q else E := by
  have hw : Region.wanted o (yielded ops a.tmps) = true := by simp [Region.wanted, hg]
  rw [if_pos hw]
  obtain ⟨ao, cap, rfl, hc, hn, hr⟩ := hsl
  have hblk : ∀ w', w.grownBy w' v.ownBlock → Below lo w w' := fun w' hg => (Below.refl _ _).grown hg hlo (fun k hk => (hown.1.lt k hk).1)
  cases ao with
  | none =>
    have hcap := hn rfl
    have hnil : news = [] := List.eq_nil_of_length_eq_zero (by omega)
    subst hnil
    subst hcap
    have hrun := run_append_owned_none (P := P) (w := w) lo t o.type e i 1 ht hi v cs.length cs hown.1
    unfold Oper.wp
    simp [execOp, hop, resolve, invoke, builtin, hs, hx, hrun, Result.andThen]
    exact hK v w (by simpa using hown) (Below.refl _ _)
  | some ad =>
    refine wp_append_own w s x t hop lo e i z 1 bytes ht hi hz hsize hby hzs (by decide) v cs.length cs hs hown.1 ad news.length cap news hx (by simp) ?_ h1 h63 hb hlo ?_
    · intro j u hj
      have hlt : j < news.length := (List.getElem?_eq_some_iff.1 hj).1
      obtain ⟨b, off, he, hcell⟩ := hr (by omega)
      obtain rfl := Option.some.inj he
      rw [Addr.add_lit, hcell j hlt, hj]
    · intro v' w' ho hgr _
      exact hK v' w' (Own.of ho) (hblk w' hgr)

theorem wpl_str {P : Program} (w : World) {ops : Array Oper} {rest : List Oper} {o : Oper} {a : Act} {Q : Exit → Act → World → Prop}
    (hg : o.guard = none) (s x : Operand) (t u : TypeId) (hop : o.op = Op.call { callee := Callee.builtin Builtin.append, args := #[s, x], argTypes := #[t, u] })
    (e : TypeId) (i : TypeInfo) (ht : P.underlying t = some (.slice e)) (hu : P.underlying u = some .string) (hi : P.info? e = some i) (hz : i.zero = some (.int .u8 0)) (hsize : i.size = 1) (hby : i.bytes = 1)
    (lo : Nat) (v : Value) (xs : List Int) (hs : a.eval s = v) (hown : Own w lo w.heap.size e v (bs xs)) (y : ByteArray) (hx : a.eval x = .string y)
    (hb : xs.length + y.size ≤ 140737488355328) (hlo : lo ≤ w.heap.size)
    (hK : ∀ v' w', Own w' lo w'.heap.size e v' (bs (xs ++ sb y)) → Below lo w w' → wpList P ops Q rest (a.put o.dst v') w') : wpList P ops Q (o :: rest) a w := by
  refine Lib.wpList_append_own_string w hg s x t u hop lo e i ht hu hi hz hsize hby v (bs xs).length (bs xs) hs hown.1 y hx (by rw [bs_len]; unfold maxLen; omega) (by rw [bs_len]; omega) hlo ?_
  intro v' w' ho hgr _
  rw [sb_cells, ← bs_app] at ho
  exact hK v' w' (Own.of ho) ((Below.refl _ _).grown hgr hlo (fun k hk => (hown.1.lt k hk).1))

end Go.Proofs.YtfpaichdkddglabDoor.Laws

/- Contracts of PutNum, the program's and the specification's: both make, in new memory, the bytes that were there and the number's groups behind them. -/
namespace Go.Proofs.YtfpaichdkddglabDoor.Puts
open Go.RowKit Go.Proofs.YtfpaichdkddglabDoor.Mem Go.Proofs.YtfpaichdkddglabDoor.Plain Go.Proofs.YtfpaichdkddglabDoor.Laws Go.Proofs.YtfpaichdkddglabDoor.Bytes
set_option linter.unusedVariables false

/-- the bytes of a number as it is put -/
def num (n : Int) : List Int := enc (clampN n).toNat
theorem num_byt (n : Int) : Byt (num n) := enc_byte _
theorem num_len (n : Int) : 1 ≤ (num n).length ∧ (num n).length ≤ 5 := ⟨enc_len _, enc_len5 _ (by have := clampN_bd n; omega)⟩

theorem byte_small {m : Nat} (h : m < 128) (ys : List Int) : ys ++ [(m : Int)] = ys ++ enc m := by rw [enc_small h]

theorem one_byte (x : Int) : ∀ u ∈ [Value.int .u8 x], u.oneCell' = true := by
  intro u hu
  rw [List.mem_singleton] at hu
  rw [hu]
  rfl

theorem new_cell (w : World) (u : Value) (t : TypeId) : (w.alloc (.cells #[u] t)).cell? ⟨w.heap.size, 0, none⟩ = some u := by
  rw [cell_of_row _ w.heap.size 0 #[u] t (0, 0) (heap_alloc_new w _)]
  rfl

theorem Own.empty (w : World) (lo : Nat) (h : lo ≤ w.heap.size) : Own (w.alloc (.cells #[] 5)) lo (w.alloc (.cells #[] 5)).heap.size 5 (.slice (some ⟨w.heap.size, 0, none⟩) 0 0) (bs []) :=
  Own.of (World.ownsRow_lit w #[] 0 h (Nat.zero_le _) rfl)

/-- the bytes of texts, each behind its length -/
def tx (s : ByteArray) : List Int := num (s.size : Int) ++ sb s
def tot : List ByteArray → Nat
  | [] => 0
  | s :: r => s.size + tot r
def txs : List ByteArray → List Int
  | [] => []
  | s :: r => tx s ++ txs r
theorem tx_len (s : ByteArray) : (tx s).length ≤ s.size + 5 := by
  unfold tx; have := num_len (s.size : Int); rw [List.length_append, sb_len]; omega
theorem txs_len (l : List ByteArray) : (txs l).length ≤ 5 * l.length + tot l := by
  induction l with
  | nil => simp [txs, tot]
  | cons s r ih => have := tx_len s; simp only [txs, tot, List.length_append, List.length_cons]; omega
theorem tx_byt (s : ByteArray) : Byt (tx s) := (num_byt _).app (sb_byt _)

theorem Sl.oneStr (w : World) (s : ByteArray) (t : TypeId) : Sl (w.alloc (.cells #[.string s] t)) (.slice (some ⟨w.heap.size, 0, none⟩) 1 1) (ss [s]) := Sl.one w (.string s) t

theorem drop_str {l : List ByteArray} {k : Nat} {s : ByteArray} (h : l[k]? = some s) : l.drop k = s :: l.drop (k + 1) := by
  obtain ⟨hk, rfl⟩ := List.getElem?_eq_some_iff.1 h
  exact List.drop_eq_getElem_cons hk

end Go.Proofs.YtfpaichdkddglabDoor.Puts

/- Contracts of GetNum, the program's and the specification's: both answer 'getNum' of the bytes, and turn nothing. -/
namespace Go.Proofs.YtfpaichdkddglabDoor.Gets
open Go.RowKit Go.Proofs.YtfpaichdkddglabDoor.Mem Go.Proofs.YtfpaichdkddglabDoor.Plain
set_option linter.unusedVariables false

theorem ret3 {a a' b b' : Int} {c c' : Bool} (h1 : a = a') (h2 : b = b') (h3 : c = c') : Ending.returned (.tuple #[.int .i64 a, .int .i64 b, .bool c]) = .returned (.tuple #[.int .i64 a', .int .i64 b', .bool c']) := by rw [h1, h2, h3]

theorem getNum_out {xs : List Int} {at_ : Int} (h : at_ < 0 ∨ (xs.length : Int) ≤ at_) : getNum xs at_ = (0, 0, false) := by
  unfold getNum; rw [if_neg (by omega)]
theorem getNum_none {xs : List Int} {a : Nat} (ha : a < xs.length) (h : dec 0 0 1 (xs.drop a) = none) : getNum xs (a : Int) = (0, 0, false) := by
  unfold getNum; rw [if_pos (by omega)]; simp [h]
theorem getNum_some {xs : List Int} {a : Nat} {n : Int} {k : Nat} (ha : a < xs.length) (h : dec 0 0 1 (xs.drop a) = some (n, k)) : getNum xs (a : Int) = (n, (a : Int) + k, true) := by
  unfold getNum; rw [if_pos (by omega)]; simp [h]

theorem drop_at {xs : List Int} {a k : Nat} {c : Int} (h : xs[a + k]? = some c) : xs.drop (a + k) = c :: xs.drop (a + (k + 1)) := by
  obtain ⟨hk, rfl⟩ := List.getElem?_eq_some_iff.1 h
  rw [List.drop_eq_getElem_cons hk]; rfl

theorem dec_more {k : Nat} {N W c : Int} {r : List Int} (h5 : k ≠ 5) (hc : 128 ≤ c) : dec k N W (c :: r) = dec (k + 1) (N + c % 128 * W) (W * 128) r := by
  rw [dec, if_neg h5, if_pos hc]
theorem dec_five {N W c : Int} {r : List Int} : dec 5 N W (c :: r) = none := by rw [dec, if_pos rfl]
theorem dec_bad {k : Nat} {N W c : Int} {r : List Int} (h5 : k ≠ 5) (hc : c < 128) (hb : 1000000000 < N + c % 128 * W ∨ (0 < k ∧ c % 128 = 0)) : dec k N W (c :: r) = none := by
  rw [dec, if_neg h5, if_neg (by omega), if_pos hb]
theorem dec_good {k : Nat} {N W c : Int} {r : List Int} (h5 : k ≠ 5) (hc : c < 128) (hb : ¬ (1000000000 < N + c % 128 * W ∨ (0 < k ∧ c % 128 = 0))) : dec k N W (c :: r) = some (N + c % 128 * W, k + 1) := by
  rw [dec, if_neg h5, if_neg (by omega), if_neg hb]

theorem pow_bd {k : Nat} (hk : k < 5) : 1 ≤ (128 : Int) ^ k ∧ (128 : Int) ^ k ≤ 268435456 := by
  rcases (show k = 0 ∨ k = 1 ∨ k = 2 ∨ k = 3 ∨ k = 4 by omega) with rfl | rfl | rfl | rfl | rfl <;> decide
theorem prod_bd {c W : Int} (hW : 1 ≤ W) : 0 ≤ c % 128 * W ∧ c % 128 * W ≤ 127 * W :=
  ⟨Int.mul_nonneg (by omega) (by omega), Int.mul_le_mul_of_nonneg_right (by omega) (by omega)⟩

set_option maxHeartbeats 1000000 in
theorem get_impl (w : World) (v : Value) (xs : List Int) (at_ : Int) (h : Sl w v (bs xs)) (hb : Byt xs) (hx : xs.length ≤ 140737488355328) (hlo : -9223372036854775808 ≤ at_) (hhi : at_ ≤ 9223372036854775807) :
    Calls Tryd.prog 76 #[v, .int .i64 at_] w fun e w' => e = .returned (.tuple #[.int .i64 (getNum xs at_).1, .int .i64 (getNum xs at_).2.1, .bool (getNum xs at_).2.2]) ∧ w' = w := by
  obtain ⟨ao, cap, rfl, hc1, _, hr1⟩ := h
  rw [bs_len] at hr1 hc1
  rw [bs_len]
  by_cases h0 : at_ < 0
  · have HG : Hid (getNum xs at_ = (0, 0, false)) := getNum_out (.inl h0)
    go_enter Tryd.func76, Tryd.ntmps76
    go_wp2
    go_ret3
    exact ⟨by rw [HG.out]; rfl, rfl⟩
  by_cases h1 : (xs.length : Int) ≤ at_
  · have HG : Hid (getNum xs at_ = (0, 0, false)) := getNum_out (.inr h1)
    go_enter Tryd.func76, Tryd.ntmps76
    go_wp2
    go_ret3
    exact ⟨by rw [HG.out]; rfl, rfl⟩
  obtain ⟨a, rfl⟩ := Int.eq_ofNat_of_zero_le (show 0 ≤ at_ by omega)
  have ha : a < xs.length := by omega
  have hd0 : decide ((a : Int) < 0) = false := by simp
  obtain ⟨b, off, rfl, hcells⟩ := hr1 (by omega)
  clear h0 h1 hlo hhi
  go_enter Tryd.func76, Tryd.ntmps76
  go_wp2
  go_loop [7, 8, 24] (fun n wo i => ∃ (k : Nat) (N W : Int), k ≤ xs.length - a ∧ k ≤ 5 ∧ i = .int .i64 k ∧ n = .int .i64 N ∧ wo = .int .i64 W ∧ W = 128 ^ k ∧ 0 ≤ N ∧ N < W ∧ dec 0 0 1 (xs.drop a) = dec k N W (xs.drop (a + k))) (fun _ _ i => (xs.length - a) - (intOf i).toNat)
  case atStart => exact ⟨0, 0, 1, Nat.zero_le _, by omega, rfl, rfl, rfl, rfl, by omega, by omega, rfl⟩
  case round =>
    obtain ⟨k, N, W, hk, hk5, rfl, rfl, rfl, hW0, hN0, hN1, hD0⟩ := hrel
    have HD : Hid (W = 128 ^ k ∧ dec 0 0 1 (xs.drop a) = dec k N W (xs.drop (a + k))) := ⟨hW0, hD0⟩
    clear hD0 hW0
    by_cases hlt : k < xs.length - a
    · obtain ⟨c, hc0⟩ : ∃ c, xs[a + k]? = some c := ⟨xs[a + k]'(by omega), by simp⟩
      have hcell : w.cell? ⟨b, off + a + k, none⟩ = some (.int .u8 c) := by
        rw [Nat.add_assoc, hcells (a + k) (by omega), bs_get, hc0]; rfl
      have hby := hb.at hc0
      have HC : Hid (xs.drop (a + k) = c :: xs.drop (a + (k + 1))) := drop_at hc0
      clear hcells hc0 hb
      by_cases h5 : k = 5
      · have HR : Hid (getNum xs (a : Int) = (0, 0, false)) := getNum_none ha (by rw [HD.out.2, HC.out, h5]; exact dec_five)
        have h5' : ((k : Int) == 5) = true := by simp; omega
        clear HD HC h5
        go_wp2
        go_ret3
        exact ⟨by rw [HR.out]; rfl, rfl⟩
      have hWb : 1 ≤ W ∧ W ≤ 268435456 := by rw [HD.out.1]; exact pow_bd (by omega)
      have hpb := prod_bd (c := c) hWb.1
      have h5' : ((k : Int) == 5) = false := by simp; omega
      by_cases hge : 128 ≤ c
      · have HR : Hid (W * 128 = 128 ^ (k + 1) ∧ dec 0 0 1 (xs.drop a) = dec (k + 1) (N + c % 128 * W) (W * 128) (xs.drop (a + (k + 1)))) :=
          ⟨by rw [HD.out.1, Int.pow_succ], by rw [HD.out.2, HC.out, dec_more h5 hge]⟩
        clear HD HC
        go_wp2
        go_round
        case rel => exact ⟨k + 1, N + c % 128 * W, W * 128, by omega, by omega, by go_num, rfl, rfl, HR.out.1, by omega, by omega, HR.out.2⟩
        case measure => simp [intOf]; omega
      · have hlt8 : c < 128 := by omega
        by_cases hbig : 1000000000 < N + c % 128 * W
        · have HR : Hid (getNum xs (a : Int) = (0, 0, false)) := getNum_none ha (by rw [HD.out.2, HC.out]; exact dec_bad h5 hlt8 (.inl hbig))
          have hdec : decide (1000000000 < N + c % 128 * W) = true := by simpa using hbig
          clear HD HC
          go_wp2
          go_ret3
          exact ⟨by rw [HR.out]; rfl, rfl⟩
        · have hdec : decide (1000000000 < N + c % 128 * W) = false := by simpa using hbig
          by_cases hk0 : 0 < k
          · have hdk : decide ((0 : Int) < (k : Int)) = true := by simpa using hk0
            by_cases hz : c % 128 = 0
            · have HR : Hid (getNum xs (a : Int) = (0, 0, false)) := getNum_none ha (by rw [HD.out.2, HC.out]; exact dec_bad h5 hlt8 (.inr ⟨hk0, hz⟩))
              have hz' : (c % 128 == 0) = true := by simpa using hz
              clear HD HC hz
              go_wp2
              go_ret3
              exact ⟨by rw [HR.out]; rfl, rfl⟩
            · have HR : Hid (getNum xs (a : Int) = (N + c % 128 * W, (a : Int) + ((k + 1 : Nat) : Int), true)) := getNum_some ha (by rw [HD.out.2, HC.out]; exact dec_good h5 hlt8 (by omega))
              have hz' : (c % 128 == 0) = false := by simpa using hz
              clear HD HC hz
              go_wp2
              go_ret3
              exact ⟨by rw [HR.out]; exact ret3 rfl (by dsimp only; omega) rfl, rfl⟩
          · have hdk : decide ((0 : Int) < (k : Int)) = false := by simpa using hk0
            have HR : Hid (getNum xs (a : Int) = (N + c % 128 * W, (a : Int) + ((k + 1 : Nat) : Int), true)) := getNum_some ha (by rw [HD.out.2, HC.out]; exact dec_good h5 hlt8 (by omega))
            clear HD HC
            go_wp2
            go_ret3
            exact ⟨by rw [HR.out]; exact ret3 rfl (by dsimp only; omega) rfl, rfl⟩
    · have HR : Hid (getNum xs (a : Int) = (0, 0, false)) := getNum_none ha (by rw [HD.out.2, List.drop_eq_nil_of_le (by omega)]; rfl)
      clear HD
      go_wp2
      go_ret3
      exact ⟨by rw [HR.out]; rfl, rfl⟩

theorem and127b {c : Int} (h : 0 ≤ c ∧ c ≤ 255) : bits .and .i64 c 127 = c % 128 := and127 h.1 (by omega)

set_option maxHeartbeats 1000000 in
theorem get_spec (w : World) (v : Value) (xs : List Int) (at_ : Int) (h : Sl w v (bs xs)) (hb : Byt xs) (hx : xs.length ≤ 140737488355328) (hlo : -9223372036854775808 ≤ at_) (hhi : at_ ≤ 9223372036854775807) :
    Calls Tryd.prog 50 #[v, .int .i64 at_] w fun e w' => e = .returned (.tuple #[.int .i64 (getNum xs at_).1, .int .i64 (getNum xs at_).2.1, .bool (getNum xs at_).2.2]) ∧ w' = w := by
  obtain ⟨ao, cap, rfl, hc1, _, hr1⟩ := h
  rw [bs_len] at hr1 hc1
  rw [bs_len]
  by_cases h0 : at_ < 0
  · have HG : Hid (getNum xs at_ = (0, 0, false)) := getNum_out (.inl h0)
    have hd : decide (0 ≤ at_) = false := by simp; omega
    go_enter Tryd.func50, Tryd.ntmps50
    go_wp2
    refine wp_loop_rounds 1 ?_; rw [rounds_succ]
    go_wp2
    go_ret3
    exact ⟨by rw [HG.out]; rfl, rfl⟩
  by_cases h1 : (xs.length : Int) ≤ at_
  · have HG : Hid (getNum xs at_ = (0, 0, false)) := getNum_out (.inr h1)
    have hd : decide (0 ≤ at_) = true := by simp; omega
    have hd2 : decide (at_ < (xs.length : Int)) = false := by simp; omega
    go_enter Tryd.func50, Tryd.ntmps50
    go_wp2
    refine wp_loop_rounds 1 ?_; rw [rounds_succ]
    go_wp2
    go_ret3
    exact ⟨by rw [HG.out]; rfl, rfl⟩
  obtain ⟨a, rfl⟩ := Int.eq_ofNat_of_zero_le (show 0 ≤ at_ by omega)
  have ha : a < xs.length := by omega
  obtain ⟨b, off, rfl, hcells⟩ := hr1 (by omega)
  clear h0 h1 hlo hhi
  have hda : decide ((0 : Int) ≤ (a : Int)) = true := by simp
  have hdb : decide ((a : Int) < (xs.length : Int)) = true := by simp; omega
  go_enter Tryd.func50, Tryd.ntmps50
  go_wp2
  go_loop [7, 8] (fun n i => ∃ (k : Nat) (N W : Int), a + k ≤ xs.length ∧ k ≤ 5 ∧ i = .int .i64 k ∧ n = .int .i64 N ∧ W = 128 ^ k ∧ 0 ≤ N ∧ N < W ∧ dec 0 0 1 (xs.drop a) = dec k N W (xs.drop (a + k))) (fun _ i => 5 - (intOf i).toNat)
  case atStart => exact ⟨0, 0, 1, by omega, by omega, rfl, rfl, rfl, by omega, by omega, rfl⟩
  case round =>
    obtain ⟨k, N, W, hk, hk5, rfl, rfl, hW0, hN0, hN1, hD0⟩ := hrel
    have HD : Hid (W = 128 ^ k ∧ dec 0 0 1 (xs.drop a) = dec k N W (xs.drop (a + k))) := ⟨hW0, hD0⟩
    clear hD0 hW0
    by_cases h5 : k = 5
    · have h5' : decide ((k : Int) < 5) = false := by simp; omega
      have HR : Hid (getNum xs (a : Int) = (0, 0, false)) := by
        by_cases hlt : a + k < xs.length
        · exact getNum_none ha (by subst h5; rw [HD.out.2, List.drop_eq_getElem_cons hlt]; exact dec_five)
        · exact getNum_none ha (by rw [HD.out.2, List.drop_eq_nil_of_le (by omega)]; rfl)
      clear HD h5
      go_wp2
      go_ret3
      exact ⟨by rw [HR.out]; rfl, rfl⟩
    have h5' : decide ((k : Int) < 5) = true := by simp; omega
    by_cases hlt : a + k < xs.length
    · have hlt' : decide ((a : Int) + (k : Int) < (xs.length : Int)) = true := by simp; omega
      obtain ⟨c, hc0⟩ : ∃ c, xs[a + k]? = some c := ⟨xs[a + k]'(by omega), by simp⟩
      have hcell : w.cell? ⟨b, off + (a + k), none⟩ = some (.int .u8 c) := by
        rw [hcells (a + k) (by omega), bs_get, hc0]; rfl
      have hby := hb.at hc0
      have HC : Hid (xs.drop (a + k) = c :: xs.drop (a + (k + 1))) := drop_at hc0
      clear hcells hc0 hb
      have hWb : 1 ≤ W ∧ W ≤ 268435456 := by rw [HD.out.1]; exact pow_bd (by omega)
      have hpb := prod_bd (c := c) hWb.1
      have hmask := and127b hby
      have hor : bits .or .i64 N (wrap64 (c % 128 * 2 ^ (7 * k))) = N + c % 128 * W := by
        have e : (128 : Int) ^ k = 2 ^ (7 * k) := by rw [Int.pow_mul]; rfl
        have hw : wrap64 (c % 128 * 2 ^ (7 * k)) = c % 128 * 2 ^ (7 * k) := IntWalk.wrap64_in _ (by rw [← e, ← HD.out.1]; omega)
        rw [hw, HD.out.1]; exact or_join (by omega) hN0 (by rw [← HD.out.1]; exact hN1) (by omega) (by omega)
      by_cases hge : 127 < c
      · have HR : Hid (W * 128 = 128 ^ (k + 1) ∧ dec 0 0 1 (xs.drop a) = dec (k + 1) (N + c % 128 * W) (W * 128) (xs.drop (a + (k + 1)))) :=
          ⟨by rw [HD.out.1, Int.pow_succ], by rw [HD.out.2, HC.out, dec_more h5 (by omega)]⟩
        clear HD HC
        go_wp2
        go_round
        case rel => exact ⟨k + 1, N + c % 128 * W, W * 128, by omega, by omega, by go_num, rfl, HR.out.1, by omega, by omega, HR.out.2⟩
        case measure => simp [intOf]; omega
      · have hlt8 : c < 128 := by omega
        by_cases hk0 : 0 < k
        · have hdk : decide ((0 : Int) < (k : Int)) = true := by simpa using hk0
          by_cases hz : c = 0
          · have HR : Hid (getNum xs (a : Int) = (0, 0, false)) := getNum_none ha (by rw [HD.out.2, HC.out]; exact dec_bad h5 hlt8 (.inr ⟨hk0, by omega⟩))
            have hz' : (c == 0) = true := by simpa using hz
            clear HD HC hz
            go_wp2
            go_ret3
            exact ⟨by rw [HR.out]; rfl, rfl⟩
          · have hz' : (c == 0) = false := by simpa using hz
            by_cases hbig : 1000000000 < N + c % 128 * W
            · have HR : Hid (getNum xs (a : Int) = (0, 0, false)) := getNum_none ha (by rw [HD.out.2, HC.out]; exact dec_bad h5 hlt8 (.inl hbig))
              have hdec : decide (1000000000 < N + c % 128 * W) = true := by simpa using hbig
              clear HD HC hz
              go_wp2
              go_ret3
              exact ⟨by rw [HR.out]; rfl, rfl⟩
            · have HR : Hid (getNum xs (a : Int) = (N + c % 128 * W, (a : Int) + ((k + 1 : Nat) : Int), true)) := getNum_some ha (by rw [HD.out.2, HC.out]; exact dec_good h5 hlt8 (by omega))
              have hdec : decide (1000000000 < N + c % 128 * W) = false := by simpa using hbig
              clear HD HC hz
              go_wp2
              go_ret3
              exact ⟨by rw [HR.out]; exact ret3 rfl (by dsimp only; omega) rfl, rfl⟩
        · have hdk : decide ((0 : Int) < (k : Int)) = false := by simpa using hk0
          by_cases hbig : 1000000000 < N + c % 128 * W
          · have HR : Hid (getNum xs (a : Int) = (0, 0, false)) := getNum_none ha (by rw [HD.out.2, HC.out]; exact dec_bad h5 hlt8 (.inl hbig))
            have hdec : decide (1000000000 < N + c % 128 * W) = true := by simpa using hbig
            clear HD HC
            go_wp2
            go_ret3
            exact ⟨by rw [HR.out]; rfl, rfl⟩
          · have HR : Hid (getNum xs (a : Int) = (N + c % 128 * W, (a : Int) + ((k + 1 : Nat) : Int), true)) := getNum_some ha (by rw [HD.out.2, HC.out]; exact dec_good h5 hlt8 (by omega))
            have hdec : decide (1000000000 < N + c % 128 * W) = false := by simpa using hbig
            clear HD HC
            go_wp2
            go_ret3
            exact ⟨by rw [HR.out]; exact ret3 rfl (by dsimp only; omega) rfl, rfl⟩
    · have hlt' : decide ((a : Int) + (k : Int) < (xs.length : Int)) = false := by simp; omega
      have HR : Hid (getNum xs (a : Int) = (0, 0, false)) := getNum_none ha (by rw [HD.out.2, List.drop_eq_nil_of_le (by omega)]; rfl)
      clear HD
      go_wp2
      go_ret3
      exact ⟨by rw [HR.out]; rfl, rfl⟩

end Go.Proofs.YtfpaichdkddglabDoor.Gets

/- Plain lists and numbers: what was put is got back. -/
namespace Go.Proofs.YtfpaichdkddglabDoor.Plain
open Go.Proofs.YtfpaichdkddglabDoor.Mem Go.Proofs.YtfpaichdkddglabDoor.Laws Go.Proofs.YtfpaichdkddglabDoor.Puts Go.Proofs.YtfpaichdkddglabDoor.Gets

theorem split_mul (m : Nat) (W : Int) : ((m % 128 : Nat) : Int) * W + ((m / 128 : Nat) : Int) * (W * 128) = (m : Int) * W := by
  have h : (m : Int) = ((m / 128 : Nat) : Int) * 128 + ((m % 128 : Nat) : Int) := by omega
  have e : (m : Int) * W = (((m / 128 : Nat) : Int) * 128 + ((m % 128 : Nat) : Int)) * W := by rw [← h]
  rw [e, Int.add_mul, Int.mul_assoc, Int.mul_comm 128 W, Int.add_comm]

theorem dec_enc (f : Nat) : ∀ (m : Nat) (k : Nat) (N W : Int) (r : List Int), m ≤ f → 0 ≤ N → 0 ≤ W → N + (m : Int) * W ≤ 1000000000 → k + (enc m).length ≤ 5 → (k = 0 ∨ 0 < m) → dec k N W (enc m ++ r) = some (N + (m : Int) * W, k + (enc m).length) := by
  induction f with
  | zero =>
    intro m k N W r hm h0 hW hN hk hz
    obtain rfl : m = 0 := by omega
    rw [enc_small (by omega)] at hk ⊢
    have hk0 : k = 0 := by omega
    subst hk0
    exact dec_good (by omega) (by omega) (by rintro (h | h) <;> simp at * <;> omega)
  | succ f ih =>
    intro m k N W r hm h0 hW hN hk hz
    by_cases hs : m < 128
    · rw [enc_small hs] at hk ⊢
      have e : ((m : Nat) : Int) % 128 = (m : Int) := by omega
      have hg := dec_good (k := k) (N := N) (W := W) (c := (m : Int)) (r := r) (by simp at hk; omega) (by omega) (by rw [e]; omega)
      rw [e] at hg
      exact hg
    · rw [enc_step hs] at hk ⊢
      simp only [List.length_cons] at hk
      have e : ((m % 128 + 128 : Nat) : Int) % 128 = ((m % 128 : Nat) : Int) := by omega
      have hstep := dec_more (k := k) (N := N) (W := W) (c := ((m % 128 + 128 : Nat) : Int)) (r := enc (m / 128) ++ r) (by omega) (by omega)
      rw [e] at hstep
      have hsm := split_mul m W
      have hp : 0 ≤ ((m % 128 : Nat) : Int) * W := Int.mul_nonneg (by omega) hW
      have hih := ih (m / 128) (k + 1) (N + ((m % 128 : Nat) : Int) * W) (W * 128) r (by omega) (by omega) (by omega) (by omega) (by omega) (.inr (by omega))
      rw [List.cons_append, hstep, hih]
      simp only [List.length_cons, Option.some.injEq, Prod.mk.injEq]
      omega

theorem num_eq (n : Int) : num n = enc (clampN n).toNat := rfl

/-- A number comes back. -/
theorem getNum_back (ys r : List Int) (n : Int) : getNum (ys ++ (num n ++ r)) (ys.length : Int) = (clampN n, (ys.length : Int) + (num n).length, true) := by
  have hb := clampN_bd n
  have hl := num_len n
  have e : ((clampN n).toNat : Int) = clampN n := by omega
  have hd := dec_enc (clampN n).toNat (clampN n).toNat 0 0 1 r (Nat.le_refl _) (by omega) (by omega) (by omega) (by rw [← num_eq]; omega) (.inl rfl)
  rw [← num_eq] at hd
  have hlen : ys.length < (ys ++ (num n ++ r)).length := by simp; omega
  have h := getNum_some (xs := ys ++ (num n ++ r)) (a := ys.length) hlen (by rw [List.drop_append, List.drop_eq_nil_of_le (Nat.le_refl _), Nat.sub_self, List.nil_append, List.drop_zero]; exact hd)
  rw [h]
  simp only [Prod.mk.injEq, and_true]
  omega

theorem dec_big (l : List Int) : ∀ (k : Nat) (N W : Int), (∀ c ∈ l, 128 ≤ c) → dec k N W l = none := by
  induction l with
  | nil => intro k N W _; rfl
  | cons c r ih =>
    intro k N W h
    by_cases h5 : k = 5
    · subst h5; exact dec_five
    · rw [dec_more h5 (h c (List.mem_cons_self ..))]
      exact ih _ _ _ (fun x hx => h x (List.mem_cons_of_mem _ hx))

theorem enc_front (f : Nat) : ∀ m, m ≤ f → ∀ c ∈ (enc m).dropLast, 128 ≤ c := by
  induction f with
  | zero => intro m hm; rw [enc_small (by omega)]; simp
  | succ f ih =>
    intro m hm
    by_cases hs : m < 128
    · rw [enc_small hs]; simp
    · rw [enc_step hs]
      have hne : enc (m / 128) ≠ [] := by
        intro h; have := enc_len (m / 128); rw [h] at this; simp at this
      rw [List.dropLast_cons_of_ne_nil hne]
      intro c hc
      rcases List.mem_cons.1 hc with rfl | hc
      · omega
      · exact ih (m / 128) (by omega) c hc

/-- A number that lacks its last byte does not. -/
theorem getNum_cut (ys : List Int) (n : Int) : getNum ((ys ++ num n).take ((ys ++ num n).length - 1)) (ys.length : Int) = (0, 0, false) := by
  have hl := num_len n
  have hne : num n ≠ [] := by intro h; rw [h] at hl; simp at hl
  have e : (ys ++ num n).take ((ys ++ num n).length - 1) = ys ++ (num n).dropLast := by
    rw [← List.dropLast_eq_take, List.dropLast_append_of_ne_nil hne]
  rw [e]
  by_cases h0 : (num n).dropLast.length = 0
  · exact getNum_out (.inr (by simp [List.length_append] at *; omega))
  · refine getNum_none (by rw [List.length_append]; omega) ?_
    rw [List.drop_append, List.drop_eq_nil_of_le (Nat.le_refl _), Nat.sub_self, List.nil_append, List.drop_zero]
    exact dec_big _ _ _ _ (enc_front _ _ (Nat.le_refl _))

theorem u8s_sb (s : ByteArray) : u8s (sb s) = s.data.toList := by
  unfold u8s sb
  rw [List.map_map]
  have h : ((fun x : Int => UInt8.ofNat x.toNat) ∘ fun b : UInt8 => (b.toNat : Int)) = id := by
    funext b
    simp
  rw [h, List.map_id]
theorem txt_sb (s : ByteArray) : txt (sb s) = s := by
  unfold txt
  rw [u8s_sb]

theorem clamp_size {n : Nat} (h : n ≤ 1000000000) : clampN (n : Int) = (n : Int) := by
  unfold clampN
  rw [if_neg (by omega), if_neg (by omega)]

/-- A text comes back. -/
theorem getText_back (ys r : List Int) (s : ByteArray) (hs : s.size ≤ 1000000000) : getText (ys ++ (tx s ++ r)) (ys.length : Int) = (s, (ys.length : Int) + (tx s).length, true) := by
  have hg := getNum_back ys (sb s ++ r) (s.size : Int)
  rw [clamp_size hs] at hg
  have e : ys ++ (tx s ++ r) = ys ++ (num (s.size : Int) ++ (sb s ++ r)) := by unfold tx; rw [List.append_assoc]
  rw [e]
  have hl : (ys ++ (num (s.size : Int) ++ (sb s ++ r))).length = ys.length + ((num (s.size : Int)).length + (s.size + r.length)) := by
    simp only [List.length_append, sb_len]
  have hg2 : getNum (ys ++ (num (s.size : Int) ++ (sb s ++ r))) (ys.length : Int) = ((s.size : Int), ((ys.length + (num (s.size : Int)).length : Nat) : Int), true) := by
    rw [hg]; simp
  have h := getText_yes hg2 (by rw [hl]; omega)
  rw [h]
  have hd : ((ys ++ (num (s.size : Int) ++ (sb s ++ r))).drop (ys.length + (num (s.size : Int)).length)).take s.size = sb s := by
    rw [← List.append_assoc, List.drop_append, List.drop_eq_nil_of_le (by simp), List.nil_append, show ys.length + (num (s.size : Int)).length - (ys ++ num (s.size : Int)).length = 0 by simp, List.drop_zero, List.take_append_of_le_length (by rw [sb_len]; exact Nat.le_refl _), List.take_of_length_le (by rw [sb_len]; exact Nat.le_refl _)]
  rw [hd, txt_sb]
  have ht : (tx s).length = (num (s.size : Int)).length + s.size := by unfold tx; rw [List.length_append, sb_len]
  rw [ht]
  simp only [Prod.mk.injEq, and_true, true_and]
  omega

theorem rd_back (l : List ByteArray) : ∀ (ys r : List Int), (∀ s ∈ l, s.size ≤ 1000000000) → rd (ys ++ (txs l ++ r)) l.length (ys.length : Int) = some (l, (ys.length : Int) + (txs l).length) := by
  induction l with
  | nil => intro ys r _; simp [rd, txs]
  | cons s t ih =>
    intro ys r hs
    have e : ys ++ (txs (s :: t) ++ r) = ys ++ (tx s ++ (txs t ++ r)) := by simp only [txs, List.append_assoc]
    have e2 : ys ++ (tx s ++ (txs t ++ r)) = (ys ++ tx s) ++ (txs t ++ r) := by simp only [List.append_assoc]
    rw [e, List.length_cons, rd_yes (getText_back ys (txs t ++ r) s (hs s (List.mem_cons_self ..))), e2]
    have h := ih (ys ++ tx s) r (fun x hx => hs x (List.mem_cons_of_mem _ hx))
    have e3 : ((ys ++ tx s).length : Int) = (ys.length : Int) + ((tx s).length : Int) := by rw [List.length_append]; omega
    rw [e3] at h
    rw [h]
    simp only [Option.map_some, txs, List.length_append, Option.some.injEq, Prod.mk.injEq, true_and]
    omega

/-- Texts come back. -/
theorem getTexts_back (ys r : List Int) (l : List ByteArray) (hl : l.length ≤ 200) (hs : ∀ s ∈ l, s.size ≤ 1000000000) :
    getTexts ((ys ++ num (l.length : Int) ++ txs l) ++ r) (ys.length : Int) = (l, ((ys ++ num (l.length : Int) ++ txs l).length : Int), true) := by
  have hg := getNum_back ys (txs l ++ r) (l.length : Int)
  rw [clamp_size (by omega)] at hg
  have e : (ys ++ num (l.length : Int) ++ txs l) ++ r = ys ++ (num (l.length : Int) ++ (txs l ++ r)) := by simp only [List.append_assoc]
  have e2 : ys ++ (num (l.length : Int) ++ (txs l ++ r)) = (ys ++ num (l.length : Int)) ++ (txs l ++ r) := by simp only [List.append_assoc]
  rw [e]
  have hr := rd_back l (ys ++ num (l.length : Int)) r hs
  rw [← e2] at hr
  have e3 : ((ys ++ num (l.length : Int)).length : Int) = (ys.length : Int) + ((num (l.length : Int)).length : Int) := by rw [List.length_append]; omega
  rw [e3] at hr
  rw [getTexts_some hg hl hr]
  simp only [List.length_append, Prod.mk.injEq, true_and, and_true]
  omega

end Go.Proofs.YtfpaichdkddglabDoor.Plain
