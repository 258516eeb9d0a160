/- Texts in one: Ter, Plain, Plain2. -/
import Derived.Test.YtbopliahafkecaaGreatDoorPk5
import Derived.Test.YtbopliahafkecaaGreatDoorPk1
import Derived.Deep.RegionHeld3
import Derived.WalkKit
/- Facts of memory, renewed by short names. -/
namespace Go.Proofs.YtbopliahafkecaaGreatDoor.Mem
open Go.RowKit
set_option linter.unusedVariables false
set_option linter.unusedSimpArgs false

theorem Ke.h {p : Prop} (h : p) : Hid p := h
theorem Ke.b {w W W' : World} (h : Hid (Below w.heap.size w W)) (b : Below W.heap.size W W') : Hid (Below w.heap.size w W') := h.out.trans (b.mono h.out.size)
theorem Ke.r {W W' : World} {g : Nat} {o : Obj} (h : Hid (W.heap[g]? = some o)) (b : Below W.heap.size W W') : Hid (W'.heap[g]? = some o) := rowKeep h.out b
theorem Ke.c {W : World} {g : Nat} {cs : Array Value} {t : TypeId} {fr : Nat × Nat} (h : Hid (W.heap[g]? = some (.cells cs t fr))) : ∀ j, W.cell? ⟨g, j, none⟩ = cs[j]? := fun j => row_at h.out j
theorem Ke.o {W W' : World} {lo hi : Nat} {e : TypeId} {v : Value} {cs : List Value} (h : Hid (Own W lo hi e v cs)) (b : Below W.heap.size W W') (hh : hi ≤ W.heap.size := by omega) : Hid (Own W' lo hi e v cs) := Own.later h.out b hh
theorem Ke.a {W : World} {g : Nat} {cs : Array Value} {t : TypeId} {fr : Nat × Nat} (h : Hid (W.heap[g]? = some (.cells cs t fr))) : ∀ o j, (W.alloc o).cell? ⟨g, j, none⟩ = cs[j]? :=
  fun o j => row_at (rowKeep h.out ((Below.refl _ _).alloc (Nat.le_refl _) o)) j
theorem Ke.a2 {W : World} {g : Nat} {cs : Array Value} {t : TypeId} {fr : Nat × Nat} (h : Hid (W.heap[g]? = some (.cells cs t fr))) : ∀ o p j, ((W.alloc o).alloc p).cell? ⟨g, j, none⟩ = cs[j]? :=
  fun o p j => row_at (rowKeep (rowKeep h.out ((Below.refl _ _).alloc (Nat.le_refl _) o)) ((Below.refl _ _).alloc (Nat.le_refl _) p)) j
theorem Ke.a3 {W : World} {g : Nat} {cs : Array Value} {t : TypeId} {fr : Nat × Nat} (h : Hid (W.heap[g]? = some (.cells cs t fr))) : ∀ o p q j, (((W.alloc o).alloc p).alloc q).cell? ⟨g, j, none⟩ = cs[j]? :=
  fun o p q j => row_at (rowKeep (rowKeep (rowKeep h.out ((Below.refl _ _).alloc (Nat.le_refl _) o)) ((Below.refl _ _).alloc (Nat.le_refl _) p)) ((Below.refl _ _).alloc (Nat.le_refl _) q)) j
theorem Ke.l1 (W : World) (c0 : Array Value) (t0 : TypeId) : ∃ X, Hid (W.alloc (.cells c0 t0) = X) ∧ Below W.heap.size W X ∧ W.heap.size + 1 ≤ X.heap.size ∧ Hid (X.heap.size = W.heap.size + 1) ∧ Hid (X.heap[W.heap.size]? = some (.cells c0 t0 (0, 0))) :=
  ⟨_, rfl, (Below.refl _ _).alloc (Nat.le_refl _) _, by simp, by show _ = _; simp, by show _ = _; exact alloc_nth1_0 W _⟩
theorem Ke.l2 (W : World) (c0 : Array Value) (t0 : TypeId) (c1 : Array Value) (t1 : TypeId) : ∃ X, Hid ((W.alloc (.cells c0 t0)).alloc (.cells c1 t1) = X) ∧ Below W.heap.size W X ∧ W.heap.size + 2 ≤ X.heap.size ∧ Hid (X.heap.size = W.heap.size + 1 + 1) ∧ Hid (X.heap[W.heap.size]? = some (.cells c0 t0 (0, 0))) ∧ Hid (X.heap[W.heap.size + 1]? = some (.cells c1 t1 (0, 0))) :=
  ⟨_, rfl, ((Below.refl _ _).alloc (Nat.le_refl _) _).alloc (by simp) _, by simp, by show _ = _; simp, by show _ = _; exact alloc_nth2_0 W _ _, by show _ = _; exact alloc_nth2_1 W _ _⟩
theorem Ke.l3 (W : World) (c0 : Array Value) (t0 : TypeId) (c1 : Array Value) (t1 : TypeId) (c2 : Array Value) (t2 : TypeId) : ∃ X, Hid (((W.alloc (.cells c0 t0)).alloc (.cells c1 t1)).alloc (.cells c2 t2) = X) ∧ Below W.heap.size W X ∧ W.heap.size + 3 ≤ X.heap.size ∧ Hid (X.heap.size = W.heap.size + 1 + 1 + 1) ∧ Hid (X.heap[W.heap.size]? = some (.cells c0 t0 (0, 0))) ∧ Hid (X.heap[W.heap.size + 1]? = some (.cells c1 t1 (0, 0))) ∧ Hid (X.heap[W.heap.size + 1 + 1]? = some (.cells c2 t2 (0, 0))) :=
  ⟨_, rfl, (((Below.refl _ _).alloc (Nat.le_refl _) _).alloc (by simp) _).alloc (by simp; omega) _, by simp, by show _ = _; simp, by show _ = _; exact alloc_nth3_0 W _ _ _, by show _ = _; exact alloc_nth3_1 W _ _ _, by show _ = _; exact alloc_nth3_2 W _ _ _⟩
theorem Ke.s {W W' : World} {g x : Nat} {o : Obj} (h : Hid (W.heap[g]? = some o)) (gr : W.grownBy W' (some x)) (hn : ¬ x = g := by omega) : Hid (W'.heap[g]? = some o) := rowGro h.out gr (fun h9 => by injection h9 with h9; exact hn h9)
theorem Ke.t {W W' : World} {lo hi x : Nat} {e t : TypeId} {v : Value} {cs : List Value} {cx : Array Value} {fr : Nat × Nat} (h : Hid (Own W lo hi e v cs)) (r : Hid (W.heap[x]? = some (.cells cx t fr))) (gr : W.grownBy W' (some x)) (ht : t ≠ e := by decide) : Hid (Own W' lo hi e v cs) :=
  Own.gro h.out gr (fun k9 h9 e9 => Own.neRow h.out r.out ht (h9.trans e9.symm))
theorem Ke.n {W W' : World} {g lo hi : Nat} {e t : TypeId} {v : Value} {cs : List Value} {cx : Array Value} {fr : Nat × Nat} (h : Hid (W.heap[g]? = some (.cells cx t fr))) (o : Hid (Own W lo hi e v cs)) (gr : W.grownBy W' v.ownBlock) (ht : t ≠ e := by decide) : Hid (W'.heap[g]? = some (.cells cx t fr)) :=
  rowGro h.out gr (Own.neRow o.out h.out ht)
/-- cells that a region holds -/
theorem Ke.k {W W' : World} {g : Nat} {cs : Array Value} (h : ∀ j, W.cell? ⟨g, j, none⟩ = cs[j]?) (b : Below W.heap.size W W') (hn : ∃ x, cs[0]? = some x := by exact ⟨_, rfl⟩) : ∀ j, W'.cell? ⟨g, j, none⟩ = cs[j]? := by
  intro j
  obtain ⟨x, hx⟩ := hn
  have hl := World.block_lt_of_cell? W ⟨g, 0, none⟩ ((h 0).trans hx)
  rw [b.cell (p := ⟨g, j, none⟩) hl]
  exact h j
theorem Ke.g {W W' : World} {g : Nat} {cs : Array Value} {r : Option Nat} (h : ∀ j, W.cell? ⟨g, j, none⟩ = cs[j]?) (gr : W.grownBy W' r) (hne : r ≠ some g) (hn : ∃ x, cs[0]? = some x := by exact ⟨_, rfl⟩) : ∀ j, W'.cell? ⟨g, j, none⟩ = cs[j]? := by
  intro j
  obtain ⟨x, hx⟩ := hn
  have hl := World.block_lt_of_cell? W ⟨g, 0, none⟩ ((h 0).trans hx)
  have e := gr.block g hl (fun e => hne e.symm)
  have e2 : W'.cell? ⟨g, j, none⟩ = W.cell? ⟨g, j, none⟩ := by simp [World.cell?, e]
  rw [e2]
  exact h j
theorem Ke.w {W : World} {g x : Nat} {cs form : Array Value} (hg : g ≠ x) (h : ∀ j, W.cell? ⟨g, j, none⟩ = cs[j]?) : ∀ j, (W.setRow x form).cell? ⟨g, j, none⟩ = cs[j]? := by
  intro j
  have e := setRow_other W x g form hg
  have e2 : (W.setRow x form).cell? ⟨g, j, none⟩ = W.cell? ⟨g, j, none⟩ := by simp [World.cell?, e]
  rw [e2]
  exact h j

section
variable {P : Program} {ops : Array Oper} {Q : Exit → Act → World → Prop} {md : Region.Mode} {S : World → Prop}
/-- one operation of a region that draws its order is taken -/
theorem Ke.y (i : Nat) {oi : Oper} {v : Value} {fuel : Nat} {listed : Array Bool} {a : Act} {w : World} (hi : ops[i]? = some oi)
    (hQ : ∀ c a w, Q (.panic c) (a.put oi.dst v) w → Q (.panic c) a w)
    (h : wpAnyH P md ops Q S fuel (listed.setIfInBounds i true) (a.put oi.dst v) w)
    (hs : Region.noSelect ops = true := by kernel_rfl) (hf : Region.free md ops listed i = true := by kernel_rfl) (hr : (Region.ready md ops listed).contains i = true := by kernel_rfl)
    (hw : Region.wanted oi (yielded ops a.tmps) = true := by rfl)
    (hy : ∀ w, S w → (execOp a.eval oi).run P w = .ok (.value v) w := by (intro w hSw; (try dsimp only at hSw); go_split_ands; go_simp; (try with_reducible rfl)))
    (hS : S w := by assumption) : wpAnyH P md ops Q S (fuel + 1) listed a w :=
  wpAnyH_take hi hs hf hr hQ (Or.inl ⟨hw, hy⟩) hS h
/-- one that is not wanted -/
theorem Ke.x (i : Nat) {oi : Oper} {fuel : Nat} {listed : Array Bool} {a : Act} {w : World} (hi : ops[i]? = some oi)
    (hQ : ∀ c a w, Q (.panic c) (a.put oi.dst undef) w → Q (.panic c) a w)
    (h : wpAnyH P md ops Q S fuel (listed.setIfInBounds i true) (a.put oi.dst undef) w)
    (hs : Region.noSelect ops = true := by kernel_rfl) (hf : Region.free md ops listed i = true := by kernel_rfl) (hr : (Region.ready md ops listed).contains i = true := by kernel_rfl)
    (hw : Region.wanted oi (yielded ops a.tmps) = false := by rfl)
    (hS : S w := by assumption) : wpAnyH P md ops Q S (fuel + 1) listed a w :=
  wpAnyH_take hi hs hf hr hQ (Or.inr ⟨hw, rfl⟩) hS h
/-- one operation alone is ready -/
theorem Ke.z (i : Nat) {o : Oper} {fuel : Nat} {listed : Array Bool} {a : Act} {w : World} (ho : ops[i]? = some o)
    (h : ∀ K' : Act → World → Prop, Shut (∀ a w, S w → (S w → wpAnyH P md ops Q S fuel (listed.setIfInBounds i true) a w) → K' a w) → if Region.wanted o (yielded ops a.tmps) = true then Oper.wp P o a w K' Q else K' (a.put o.dst undef) w)
    (hr : Region.ready md ops listed = [i] := by kernel_rfl) : wpAnyH P md ops Q S (fuel + 1) listed a w :=
  wpAnyH_ready hr (by simp) (AllReadyH.cons ho h AllReadyH.nil)
end
theorem pu1 {α : Type _} (l : List α) (i : Nat) (a : α) : l.toArray.setIfInBounds i a = (l.set i a).toArray := List.setIfInBounds_toArray ..
theorem pu2 {α : Type _} {x a : α} {l : List α} : (x :: l).set 0 a = a :: l := List.set_cons_zero ..
theorem pu3 {α : Type _} {x a : α} {l : List α} {n : Nat} : (x :: l).set (n + 1) a = x :: l.set n a := List.set_cons_succ ..
theorem pu4 {α : Type _} {l : List α} {i : Nat} (h : i < l.toArray.size) : l.toArray[i] = l[i]'(by simpa using h) := List.getElem_toArray h
theorem pu5 {α : Type _} {x : α} {l : List α} (h : 0 < (x :: l).length) : (x :: l)[0] = x := rfl
theorem pu6 {α : Type _} {x : α} {l : List α} {i : Nat} (h : i + 1 < (x :: l).length) : (x :: l)[i + 1] = l[i]'(by simpa using h) := rfl

end Go.Proofs.YtbopliahafkecaaGreatDoor.Mem

/- Plain lists and numbers, no program is named: numbers as groups of seven bits ('enc'), how they are read back ('dec', 'getNum'), and what the bit operations of the specification come to. -/
namespace Go.Proofs.YtbopliahafkecaaGreatDoor.Plain

/-- n, or the nearer of 0 and 1000000000. -/
def clampN (n : Int) : Int := if n < 0 then 0 else if 1000000000 < n then 1000000000 else n

theorem clampN_bd (n : Int) : 0 ≤ clampN n ∧ clampN n ≤ 1000000000 := by unfold clampN; split <;> (try split) <;> omega

/-- Groups of seven bits, the lowest first, 128 added but for the last; at most f groups more. -/
def encF : Nat → Nat → List Int
  | 0, n => [(n : Int)]
  | f + 1, n => if n < 128 then [(n : Int)] else ((n % 128 + 128 : Nat) : Int) :: encF f (n / 128)
def enc (n : Nat) : List Int := encF n n

theorem encF_any (f : Nat) : ∀ g n, n ≤ f → n ≤ g → encF f n = encF g n := by
  induction f with
  | zero =>
    intro g n h1 h2
    cases g with
    | zero => rfl
    | succ g => rw [encF, encF, if_pos (by omega)]
  | succ f ih =>
    intro g n h1 h2
    cases g with
    | zero => rw [encF, encF, if_pos (by omega)]
    | succ g =>
      rw [encF, encF]
      split
      · rfl
      · rw [ih g (n / 128) (by omega) (by omega)]
theorem enc_small {n : Nat} (h : n < 128) : enc n = [(n : Int)] := by
  unfold enc
  cases n with
  | zero => rfl
  | succ m => rw [encF, if_pos h]
theorem enc_step {n : Nat} (h : ¬ n < 128) : enc n = ((n % 128 + 128 : Nat) : Int) :: enc (n / 128) := by
  unfold enc
  obtain ⟨m, rfl⟩ : ∃ m, n = m + 1 := ⟨n - 1, by omega⟩
  rw [encF, if_neg h, encF_any m ((m + 1) / 128) ((m + 1) / 128) (by omega) (by omega)]

theorem enc_byteF (f : Nat) : ∀ n, n ≤ f → ∀ x ∈ enc n, 0 ≤ x ∧ x ≤ 255 := by
  induction f with
  | zero => intro n hn; rw [enc_small (by omega)]; simp; omega
  | succ f ih =>
    intro n hn
    by_cases h : n < 128
    · rw [enc_small h]; simp; omega
    · rw [enc_step h]
      intro x hx
      rcases List.mem_cons.1 hx with rfl | hx
      · omega
      · exact ih (n / 128) (by omega) x hx
theorem enc_byte (n : Nat) : ∀ x ∈ enc n, 0 ≤ x ∧ x ≤ 255 := enc_byteF n n (Nat.le_refl _)

theorem enc_len (n : Nat) : 1 ≤ (enc n).length := by
  by_cases h : n < 128
  · rw [enc_small h]; simp
  · rw [enc_step h]; simp
theorem enc_len5 (n : Nat) (h : n ≤ 1000000000) : (enc n).length ≤ 5 := by
  have s1 : ∀ n, n < 128 → (enc n).length = 1 := fun n h => by rw [enc_small h]; rfl
  have up : ∀ m c : Nat, (∀ k, k < m → (enc k).length ≤ c) → ∀ k, k < m * 128 → (enc k).length ≤ c + 1 := by
    intro m c hc k hk
    by_cases h1 : k < 128
    · rw [s1 k h1]; omega
    · rw [enc_step h1]; have := hc (k / 128) (by omega); simp; omega
  have a1 : ∀ k, k < 128 → (enc k).length ≤ 1 := fun k hk => by rw [s1 k hk]; omega
  have a2 := up _ _ a1
  have a3 := up _ _ a2
  have a4 := up _ _ a3
  have a5 := up _ _ a4
  exact a5 n (by omega)

/-- What is read from a list of bytes: k groups are behind, they came to N, the next one counts W. -/
def dec (k : Nat) (N W : Int) : List Int → Option (Int × Nat)
  | [] => none
  | c :: r => if k = 5 then none else if 128 ≤ c then dec (k + 1) (N + c % 128 * W) (W * 128) r
      else if 1000000000 < N + c % 128 * W ∨ (0 < k ∧ c % 128 = 0) then none else some (N + c % 128 * W, k + 1)

/-- The number at a place, the place behind, whether it is there. -/
def getNum (xs : List Int) (at_ : Int) : Int × Int × Bool :=
  if 0 ≤ at_ ∧ at_ < xs.length then match dec 0 0 1 (xs.drop at_.toNat) with
    | some (n, k) => (n, at_ + k, true)
    | none => (0, 0, false)
  else (0, 0, false)

theorem wraps_i64 (n : Int) (h0 : 0 ≤ n) (h1 : n < 2 ^ 62) : IntKind.i64.wrap n = n := by rw [IntKind.wrap_i64]; omega

theorem and127 {n : Int} (h0 : 0 ≤ n) (h1 : n ≤ 1000000000) : bits .and .i64 n 127 = n % 128 := bits_mask .i64 62 (by decide) wraps_i64 7 (by decide) n h0 (by omega)
theorem or128 {n : Int} (h0 : 0 ≤ n) (h1 : n < 128) : bits .or .i64 n 128 = n + 128 := by
  obtain ⟨a, rfl⟩ := Int.eq_ofNat_of_zero_le h0
  have ha : a < 2 ^ 7 := by omega
  have h := (bits_nat .i64 62 (by decide) wraps_i64 a 128 (by omega) (by decide)).2
  have h2 := Nat.two_pow_add_eq_or_of_lt ha 1
  have e : (128 : Int) = ((128 : Nat) : Int) := rfl
  rw [e, h, Nat.or_comm]
  have h3 : (128 : Nat) ||| a = 128 + a := by simpa using h2.symm
  rw [h3]; omega
/-- A number below 128^k, and groups above it, by 'or'. -/
theorem or_join {N c : Int} {k : Nat} (hk : k < 5) (h0 : 0 ≤ N) (h1 : N < 128 ^ k) (hc0 : 0 ≤ c) (hc1 : c < 128) : bits .or .i64 N (c * 2 ^ (7 * k)) = N + c * 128 ^ k := by
  obtain ⟨a, rfl⟩ := Int.eq_ofNat_of_zero_le h0
  obtain ⟨b, rfl⟩ := Int.eq_ofNat_of_zero_le hc0
  have e : (128 : Int) ^ k = 2 ^ (7 * k) := by rw [Int.pow_mul]; rfl
  have en : (128 : Nat) ^ k = 2 ^ (7 * k) := by rw [Nat.pow_mul]
  have hp : (2 : Nat) ^ (7 * k) ≤ 2 ^ 28 := Nat.pow_le_pow_right (by decide) (by omega)
  have ha : a < 2 ^ (7 * k) := by rw [e] at h1; exact_mod_cast h1
  have hb : b < 128 := by omega
  have hx : b * 2 ^ (7 * k) < 2 ^ 35 := by
    have h3 : b * 2 ^ (7 * k) ≤ 127 * 2 ^ 28 := Nat.mul_le_mul (by omega) hp
    omega
  have h := (bits_nat .i64 62 (by decide) wraps_i64 a (b * 2 ^ (7 * k)) (by omega) (by omega)).2
  have hcast : ((b : Int) * 2 ^ (7 * k)) = ((b * 2 ^ (7 * k) : Nat) : Int) := by push_cast; rfl
  rw [e]
  rw [hcast, h, Nat.or_comm, Nat.mul_comm b, ← Nat.two_pow_add_eq_or_of_lt ha b]
  push_cast; omega

end Go.Proofs.YtbopliahafkecaaGreatDoor.Plain

/- Plain lists and numbers: texts behind their lengths, and what is known of a number that was read. -/
namespace Go.Proofs.YtbopliahafkecaaGreatDoor.Plain
open Go.Proofs.YtbopliahafkecaaGreatDoor.Mem

theorem dec_bd (l : List Int) : ∀ (k : Nat) (N W : Int) (n : Int) (j : Nat), 0 ≤ N → 0 ≤ W → dec k N W l = some (n, j) → 0 ≤ n ∧ n ≤ 1000000000 ∧ k < j ∧ j ≤ k + l.length := by
  induction l with
  | nil => intro k N W n j _ _ h; simp [dec] at h
  | cons c r ih =>
    intro k N W n j hN hW h
    have hp : 0 ≤ c % 128 * W := Int.mul_nonneg (by omega) hW
    rw [dec] at h
    split at h
    · simp at h
    · split at h
      · have := ih (k + 1) _ _ n j (by omega) (by omega) h
        simp only [List.length_cons]
        omega
      · split at h
        · simp at h
        · simp only [Option.some.injEq, Prod.mk.injEq] at h
          obtain ⟨rfl, rfl⟩ := h
          simp only [List.length_cons]
          omega

theorem getNum_bd {xs : List Int} {at_ n p : Int} (h : getNum xs at_ = (n, p, true)) : 0 ≤ n ∧ n ≤ 1000000000 ∧ 0 < p ∧ p ≤ xs.length ∧ 0 ≤ at_ ∧ at_ < p := by
  unfold getNum at h
  split at h
  · rename_i hr
    split at h
    · rename_i n' k hd
      simp only [Prod.mk.injEq, and_true] at h
      obtain ⟨rfl, rfl⟩ := h
      have := dec_bd _ 0 0 1 _ _ (by omega) (by omega) hd
      have hl : (xs.drop at_.toNat).length = xs.length - at_.toNat := List.length_drop
      omega
    · simp at h
  · simp at h

/-- bytes as a text -/
def u8s (xs : List Int) : List UInt8 := xs.map fun x => UInt8.ofNat x.toNat
def txt (xs : List Int) : ByteArray := ⟨(u8s xs).toArray⟩
theorem u8s_len (xs : List Int) : (u8s xs).length = xs.length := by simp [u8s]
theorem u8_back {x : Int} (h : 0 ≤ x ∧ x ≤ 255) : ((UInt8.ofNat x.toNat).toNat : Int) = x := by
  rw [UInt8.toNat_ofNat']
  omega

/-- The text at a place, the place behind, whether it is there. -/
def getText (xs : List Int) (at_ : Int) : ByteArray × Int × Bool :=
  if (getNum xs at_).2.2 = true ∧ (getNum xs at_).1 ≤ xs.length - (getNum xs at_).2.1 then
    (txt ((xs.drop (getNum xs at_).2.1.toNat).take (getNum xs at_).1.toNat), (getNum xs at_).2.1 + (getNum xs at_).1, true)
  else (⟨#[]⟩, 0, false)

theorem getText_no {xs : List Int} {at_ n p : Int} {ok : Bool} (h : getNum xs at_ = (n, p, ok)) (hb : ok = false ∨ (xs.length : Int) - p < n) : getText xs at_ = (⟨#[]⟩, 0, false) := by
  unfold getText
  rw [h, if_neg]
  rintro ⟨h1, h2⟩
  simp only at h1 h2
  rcases hb with hb | hb
  · rw [hb] at h1; simp at h1
  · omega
theorem getText_yes {xs : List Int} {at_ : Int} {n p : Nat} (h : getNum xs at_ = ((n : Int), (p : Int), true)) (hb : (n : Int) ≤ xs.length - (p : Int)) : getText xs at_ = (txt ((xs.drop p).take n), (p : Int) + (n : Int), true) := by
  unfold getText
  rw [h, if_pos ⟨rfl, hb⟩]
  rfl

theorem getText_bd {xs : List Int} {at_ p : Int} {s : ByteArray} (h : getText xs at_ = (s, p, true)) : 0 < p ∧ p ≤ xs.length ∧ s.size ≤ xs.length ∧ 0 ≤ at_ ∧ at_ < p := by
  unfold getText at h
  split at h
  · rename_i hc
    obtain ⟨n, q, ok, hg⟩ : ∃ n q ok, getNum xs at_ = (n, q, ok) := ⟨_, _, _, rfl⟩
    rw [hg] at h hc
    simp only at h hc
    obtain ⟨rfl, hc2⟩ := hc
    have hb := getNum_bd hg
    simp only [Prod.mk.injEq, and_true] at h
    obtain ⟨rfl, rfl⟩ := h
    refine ⟨by omega, by omega, ?_, by omega, by omega⟩
    show (txt _).data.size ≤ _
    simp [txt, u8s]
    omega
  · simp at h

/-- n texts, one behind the other, from a place on; and the place behind. -/
def rd (xs : List Int) : Nat → Int → Option (List ByteArray × Int)
  | 0, p => some ([], p)
  | n + 1, p => if (getText xs p).2.2 = true then (rd xs n (getText xs p).2.1).map fun r => ((getText xs p).1 :: r.1, r.2) else none

theorem rd_no {xs : List Int} {n : Nat} {p q : Int} {s : ByteArray} (h : getText xs p = (s, q, false)) : rd xs (n + 1) p = none := by
  rw [rd, h]; rfl
theorem rd_yes {xs : List Int} {n : Nat} {p q : Int} {s : ByteArray} (h : getText xs p = (s, q, true)) : rd xs (n + 1) p = (rd xs n q).map fun r => (s :: r.1, r.2) := by
  rw [rd, h]; rfl

/-- The texts at a place (at most 200), the place behind, whether they are there. -/
def getTexts (xs : List Int) (at_ : Int) : List ByteArray × Int × Bool :=
  if (getNum xs at_).2.2 = true ∧ (getNum xs at_).1 ≤ 200 then
    match rd xs (getNum xs at_).1.toNat (getNum xs at_).2.1 with
    | some (l, q) => (l, q, true)
    | none => ([], 0, false)
  else ([], 0, false)

theorem getTexts_no {xs : List Int} {at_ n p : Int} {ok : Bool} (h : getNum xs at_ = (n, p, ok)) (hb : ok = false ∨ 200 < n) : getTexts xs at_ = ([], 0, false) := by
  unfold getTexts
  rw [h, if_neg]
  rintro ⟨h1, h2⟩
  simp only at h1 h2
  rcases hb with hb | hb
  · rw [hb] at h1; simp at h1
  · omega
theorem getTexts_none {xs : List Int} {at_ p : Int} {n : Nat} (h : getNum xs at_ = ((n : Int), p, true)) (hn : n ≤ 200) (hr : rd xs n p = none) : getTexts xs at_ = ([], 0, false) := by
  unfold getTexts
  rw [h, if_pos ⟨rfl, by simp only; omega⟩]
  simp [hr]
theorem getTexts_some {xs : List Int} {at_ p q : Int} {n : Nat} {l : List ByteArray} (h : getNum xs at_ = ((n : Int), p, true)) (hn : n ≤ 200) (hr : rd xs n p = some (l, q)) : getTexts xs at_ = (l, q, true) := by
  unfold getTexts
  rw [h, if_pos ⟨rfl, by simp only; omega⟩]
  simp [hr]

theorem rd_len (xs : List Int) (n : Nat) : ∀ (p q : Int) (l : List ByteArray), rd xs n p = some (l, q) → l.length = n := by
  induction n with
  | zero => intro p q l h; simp [rd] at h; rw [h.1]; rfl
  | succ n ih =>
    intro p q l h
    rw [rd] at h
    split at h
    · rw [Option.map_eq_some_iff] at h
      obtain ⟨⟨l2, q2⟩, h1, h2⟩ := h
      simp only [Prod.mk.injEq] at h2
      rw [← h2.1, List.length_cons, ih _ _ _ h1]
    · simp at h
theorem getTexts_len (xs : List Int) (at_ : Int) : (getTexts xs at_).1.length ≤ 200 := by
  unfold getTexts
  split
  · rename_i hc
    split
    · rename_i l q hr
      have := rd_len xs _ _ _ _ hr
      simp only
      omega
    · simp
  · simp

end Go.Proofs.YtbopliahafkecaaGreatDoor.Plain
