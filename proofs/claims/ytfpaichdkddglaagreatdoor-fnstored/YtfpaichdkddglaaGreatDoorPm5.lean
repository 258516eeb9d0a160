/- Texts in one: Rec, Plain, Plain2. -/
import Derived.Test.YtfpaichdkddglaaGreatDoorPm4
import Derived.Test.YtfpaichdkddglaaGreatDoorPm1
import Derived.Laws.ResultCell
import Derived.Laws.CopyOwn
import Derived.BigQuiet
import Derived.WalkKit
namespace Go.Proofs.YtfpaichdkddglaaGreatDoor.Mem
open Go.RowKit
set_option linter.unusedVariables false
set_option linter.unusedSimpArgs false
theorem row_at {w : World} {g : Nat} {cs : Array Value} {t : TypeId} {fr : Nat × Nat} (h : w.heap[g]? = some (.cells cs t fr)) (j : Nat) : w.cell? ⟨g, j, none⟩ = cs[j]? := by simp [World.cell?, h]
theorem row_free {w : World} {g : Nat} {cs : Array Value} {t : TypeId} (h : w.heap[g]? = some (.cells cs t (0, 0))) (j : Nat) : w.frozen? ⟨g, j, none⟩ = false := by simp [World.frozen?, h]
theorem row_set {w : World} {g : Nat} {cs : Array Value} {t : TypeId} {fr : Nat × Nat} (h : w.heap[g]? = some (.cells cs t fr)) (i : Nat) (v : Value) : (w.setCell ⟨g, i, none⟩ v).heap[g]? = some (.cells (cs.setIfInBounds i v) t fr) := by
 simp [World.setCell, Array.getElem?_modify, h]
theorem cell_row {w : World} {g : Nat} {cs : Array Value} {p : Addr} {x : Value} (hp : p.block ≠ g) (h : w.cell? p = some x) : (w.setRow g cs).cell? p = some x := by
 have e := setRow_other w g p.block cs hp
 unfold World.cell? at h ⊢
 rw [e]
 exact h
theorem keepR {W W' : World} {p : Addr} {x : Value} (h : W.cell? p = some x) (b : Below W.heap.size W W') : W'.cell? p = some x := by
 rw [b.cell (World.block_lt_of_cell? W p h)]; exact h
theorem res_row_tmp {P : Program} {fn : Func} {p u : Tmp} {ty : TypeId} (h : fn.results = #[.cell p ty, .tmp u]) (tmps : Array Value) (w : World) (g : Nat) (t : TypeId) (cs : Array Value) (fr : Nat × Nat) (d : TypeDesc)
  (hp : tmps.getD p undef = .pointer (some ⟨g, 0, none⟩)) (hg : w.heap[g]? = some (.cells cs t fr))
  (hu : P.underlying ty = some d) (hd : (match d with | .struct _ | .array _ _ => true | _ => false) = true) (hi : (P.info? ty).map (·.size) = some cs.size) :
  (results fn tmps).run P w = .ok (.tuple #[.agg cs, tmps.getD u undef]) w := by
 have hp' : tmps[p]?.getD undef = .pointer (some ⟨g, 0, none⟩) := by simpa using hp
 simp [results, h, hp', asAddr, run_loadVar_row w g t ty cs fr d hg hu hd hi]
theorem quietE {P : Program} {f : FuncId} {args : Array Value} {w : World} {n : Nat} {v : Value}
  (h : Calls P f args (w.drewN n) fun e w' => e = .returned v ∧ w.drewN n = w') : Calls P f args (w.drewN n) fun e w'' => e = .returned v ∧ ∃ m, w'' = w.drewN m :=
 h.mono fun _ _ ⟨he, hm⟩ => ⟨he, n, hm.symm⟩
theorem Own.front {w : World} {lo hi : Nat} {e : TypeId} {ao : Option Addr} {n cap : Nat} {cs : List Value} (h : Own w lo hi e (.slice ao n cap) cs) (k : Nat) (hk : k ≤ cs.length) (hn : ao ≠ none) : Own w lo hi e (.slice ao k cap) (cs.take k) := by
 obtain ⟨a, rfl⟩ : ∃ a, ao = some a := by
  cases ao with
  | none => exact absurd rfl hn
  | some a => exact ⟨a, rfl⟩
 obtain ⟨⟨h1, h2⟩, h3⟩ := h
 have hl : (cs.take k).length = k := by simp; omega
 refine ⟨⟨by rw [hl, Nat.mul_one], ?_⟩, fun g hg => h3 g hg⟩
 rcases h2 with ⟨he, _⟩ | ⟨g, cap', cur, he, hb, hg, hnc, hcm, hcs, ht⟩
 ·
  simp only [Value.slice.injEq] at he; exact absurd he.1 hn
 ·
  simp only [Value.slice.injEq, Option.some.injEq] at he
  obtain ⟨rfl, rfl, rfl⟩ := he
  refine .inr ⟨g, cap, cur, by rw [hl], hb, hg, by rw [hl]; omega, hcm, hcs, ?_⟩
  rw [hl, ← ht, List.take_take, Nat.mul_one, Nat.mul_one, Nat.min_eq_left hk]
theorem Own.setRow {w : World} {lo hi g : Nat} {e : TypeId} {v : Value} {cs : List Value} (h : Own w lo hi e v cs) (cs' : Array Value) (hg : g < lo ∨ hi ≤ g) : Own (w.setRow g cs') lo hi e v cs :=
 h.keep fun k h1 h2 => setRow_other _ _ _ _ (by omega)
theorem Own.setCell {w : World} {lo hi g i : Nat} {e : TypeId} {v : Value} {cs : List Value} (h : Own w lo hi e v cs) (u : Value) (hg : g < lo ∨ hi ≤ g) : Own (w.setCell ⟨g, i, none⟩ u) lo hi e v cs :=
 h.keep fun k h1 h2 => Below.heap_setCell _ _ _ _ (by show k ≠ g; omega)
theorem Own.one {w : World} {lo hi : Nat} {e : TypeId} {v : Value} {cs : List Value} (h : Own w lo hi e v cs) : v.oneCell' = true := by
 obtain ⟨ao, cap, rfl⟩ := h.len
 rfl
theorem Own.form {w : World} {lo hi : Nat} {e : TypeId} {v : Value} {cs : List Value} (h : Own w lo hi e v cs) : ∃ ao L cap, v = .slice ao L cap ∧ L ≤ cs.length ∧ cs.length ≤ L := by
 obtain ⟨ao, cap, rfl⟩ := h.len
 exact ⟨ao, _, cap, rfl, Nat.le_refl _, Nat.le_refl _⟩
theorem Sl.form {w : World} {v : Value} {cs : List Value} (h : Sl w v cs) : ∃ ao cap, v = .slice ao cs.length cap ∧ cs.length ≤ cap := by
 obtain ⟨ao, cap, rfl, hc, _⟩ := h
 exact ⟨ao, cap, rfl, hc⟩
end Go.Proofs.YtfpaichdkddglaaGreatDoor.Mem
namespace Go.Proofs.YtfpaichdkddglaaGreatDoor.Plain
def clampN (n : Int) : Int := if n < 0 then 0 else if 1000000000 < n then 1000000000 else n
theorem clampN_bd (n : Int) : 0 ≤ clampN n ∧ clampN n ≤ 1000000000 := by unfold clampN; split <;> (try split) <;> omega
def encF : Nat → Nat → List Int
 | 0, n => [(n : Int)]
 | f + 1, n => if n < 128 then [(n : Int)] else ((n % 128 + 128 : Nat) : Int) :: encF f (n / 128)
def enc (n : Nat) : List Int := encF n n
theorem encF_any (f : Nat) : ∀ g n, n ≤ f → n ≤ g → encF f n = encF g n := by
 induction f with
 | zero =>
  intro g n h1 h2
  cases g with
  | zero => rfl
  | succ g => rw [encF, encF, if_pos (by omega)]
 | succ f ih =>
  intro g n h1 h2
  cases g with
  | zero => rw [encF, encF, if_pos (by omega)]
  | succ g =>
   rw [encF, encF]
   split
   ·
    rfl
   ·
    rw [ih g (n / 128) (by omega) (by omega)]
theorem enc_small {n : Nat} (h : n < 128) : enc n = [(n : Int)] := by
 unfold enc
 cases n with
 | zero => rfl
 | succ m => rw [encF, if_pos h]
theorem enc_step {n : Nat} (h : ¬ n < 128) : enc n = ((n % 128 + 128 : Nat) : Int) :: enc (n / 128) := by
 unfold enc
 obtain ⟨m, rfl⟩ : ∃ m, n = m + 1 := ⟨n - 1, by omega⟩
 rw [encF, if_neg h, encF_any m ((m + 1) / 128) ((m + 1) / 128) (by omega) (by omega)]
theorem enc_byteF (f : Nat) : ∀ n, n ≤ f → ∀ x ∈ enc n, 0 ≤ x ∧ x ≤ 255 := by
 induction f with
 | zero => intro n hn; rw [enc_small (by omega)]; simp; omega
 | succ f ih =>
  intro n hn
  by_cases h : n < 128
  ·
   rw [enc_small h]; simp; omega
  ·
   rw [enc_step h]
   intro x hx
   rcases List.mem_cons.1 hx with rfl | hx
   ·
    omega
   ·
    exact ih (n / 128) (by omega) x hx
theorem enc_byte (n : Nat) : ∀ x ∈ enc n, 0 ≤ x ∧ x ≤ 255 := enc_byteF n n (Nat.le_refl _)
theorem enc_len (n : Nat) : 1 ≤ (enc n).length := by
 by_cases h : n < 128
 ·
  rw [enc_small h]; simp
 ·
  rw [enc_step h]; simp
theorem enc_len5 (n : Nat) (h : n ≤ 1000000000) : (enc n).length ≤ 5 := by
 have s1 : ∀ n, n < 128 → (enc n).length = 1 := fun n h => by rw [enc_small h]; rfl
 have up : ∀ m c : Nat, (∀ k, k < m → (enc k).length ≤ c) → ∀ k, k < m * 128 → (enc k).length ≤ c + 1 := by
  intro m c hc k hk
  by_cases h1 : k < 128
  ·
   rw [s1 k h1]; omega
  ·
   rw [enc_step h1]; have := hc (k / 128) (by omega); simp; omega
 have a1 : ∀ k, k < 128 → (enc k).length ≤ 1 := fun k hk => by rw [s1 k hk]; omega
 have a2 := up _ _ a1
 have a3 := up _ _ a2
 have a4 := up _ _ a3
 have a5 := up _ _ a4
 exact a5 n (by omega)
def dec (k : Nat) (N W : Int) : List Int → Option (Int × Nat)
 | [] => none
 | c :: r => if k = 5 then none else if 128 ≤ c then dec (k + 1) (N + c % 128 * W) (W * 128) r
   else if 1000000000 < N + c % 128 * W ∨ (0 < k ∧ c % 128 = 0) then none else some (N + c % 128 * W, k + 1)
def getNum (xs : List Int) (at_ : Int) : Int × Int × Bool :=
 if 0 ≤ at_ ∧ at_ < xs.length then match dec 0 0 1 (xs.drop at_.toNat) with
  | some (n, k) => (n, at_ + k, true)
  | none => (0, 0, false)
 else (0, 0, false)
theorem wraps_i64 (n : Int) (h0 : 0 ≤ n) (h1 : n < 2 ^ 62) : IntKind.i64.wrap n = n := by rw [IntKind.wrap_i64]; omega
theorem and127 {n : Int} (h0 : 0 ≤ n) (h1 : n ≤ 1000000000) : bits .and .i64 n 127 = n % 128 := bits_mask .i64 62 (by decide) wraps_i64 7 (by decide) n h0 (by omega)
theorem or128 {n : Int} (h0 : 0 ≤ n) (h1 : n < 128) : bits .or .i64 n 128 = n + 128 := by
 obtain ⟨a, rfl⟩ := Int.eq_ofNat_of_zero_le h0
 have ha : a < 2 ^ 7 := by omega
 have h := (bits_nat .i64 62 (by decide) wraps_i64 a 128 (by omega) (by decide)).2
 have h2 := Nat.two_pow_add_eq_or_of_lt ha 1
 have e : (128 : Int) = ((128 : Nat) : Int) := rfl
 rw [e, h, Nat.or_comm]
 have h3 : (128 : Nat) ||| a = 128 + a := by simpa using h2.symm
 rw [h3]; omega
theorem or_join {N c : Int} {k : Nat} (hk : k < 5) (h0 : 0 ≤ N) (h1 : N < 128 ^ k) (hc0 : 0 ≤ c) (hc1 : c < 128) : bits .or .i64 N (c * 2 ^ (7 * k)) = N + c * 128 ^ k := by
 obtain ⟨a, rfl⟩ := Int.eq_ofNat_of_zero_le h0
 obtain ⟨b, rfl⟩ := Int.eq_ofNat_of_zero_le hc0
 have e : (128 : Int) ^ k = 2 ^ (7 * k) := by rw [Int.pow_mul]; rfl
 have hp : (2 : Nat) ^ (7 * k) ≤ 2 ^ 28 := Nat.pow_le_pow_right (by decide) (by omega)
 have ha : a < 2 ^ (7 * k) := by rw [e] at h1; exact_mod_cast h1
 have hx : b * 2 ^ (7 * k) < 2 ^ 35 := by
  have h3 : b * 2 ^ (7 * k) ≤ 127 * 2 ^ 28 := Nat.mul_le_mul (by omega) hp
  omega
 have h := (bits_nat .i64 62 (by decide) wraps_i64 a (b * 2 ^ (7 * k)) (by omega) (by omega)).2
 have hcast : ((b : Int) * 2 ^ (7 * k)) = ((b * 2 ^ (7 * k) : Nat) : Int) := by push_cast; rfl
 rw [e]
 rw [hcast, h, Nat.or_comm, Nat.mul_comm b, ← Nat.two_pow_add_eq_or_of_lt ha b]
 push_cast; omega
end Go.Proofs.YtfpaichdkddglaaGreatDoor.Plain
namespace Go.Proofs.YtfpaichdkddglaaGreatDoor.Plain
open Go.Proofs.YtfpaichdkddglaaGreatDoor.Mem
theorem dec_bd (l : List Int) : ∀ (k : Nat) (N W : Int) (n : Int) (j : Nat), 0 ≤ N → 0 ≤ W → dec k N W l = some (n, j) → 0 ≤ n ∧ n ≤ 1000000000 ∧ k < j ∧ j ≤ k + l.length := by
 induction l with
 | nil => intro k N W n j _ _ h; simp [dec] at h
 | cons c r ih =>
  intro k N W n j hN hW h
  have hp : 0 ≤ c % 128 * W := Int.mul_nonneg (by omega) hW
  rw [dec] at h
  split at h
  ·
   simp at h
  ·
   split at h
   ·
    have := ih (k + 1) _ _ n j (by omega) (by omega) h
    simp only [List.length_cons]
    omega
   ·
    split at h
    ·
     simp at h
    ·
     simp only [Option.some.injEq, Prod.mk.injEq] at h
     obtain ⟨rfl, rfl⟩ := h
     simp only [List.length_cons]
     omega
theorem getNum_bd {xs : List Int} {at_ n p : Int} (h : getNum xs at_ = (n, p, true)) : 0 ≤ n ∧ n ≤ 1000000000 ∧ 0 < p ∧ p ≤ xs.length ∧ 0 ≤ at_ ∧ at_ < p := by
 unfold getNum at h
 split at h
 ·
  rename_i hr
  split at h
  ·
   rename_i n' k hd
   simp only [Prod.mk.injEq, and_true] at h
   obtain ⟨rfl, rfl⟩ := h
   have := dec_bd _ 0 0 1 _ _ (by omega) (by omega) hd
   have hl : (xs.drop at_.toNat).length = xs.length - at_.toNat := List.length_drop
   omega
  ·
   simp at h
 ·
  simp at h
def u8s (xs : List Int) : List UInt8 := xs.map fun x => UInt8.ofNat x.toNat
def txt (xs : List Int) : ByteArray := ⟨(u8s xs).toArray⟩
theorem u8s_len (xs : List Int) : (u8s xs).length = xs.length := by simp [u8s]
theorem u8_back {x : Int} (h : 0 ≤ x ∧ x ≤ 255) : ((UInt8.ofNat x.toNat).toNat : Int) = x := by
 rw [UInt8.toNat_ofNat']
 omega
def getText (xs : List Int) (at_ : Int) : ByteArray × Int × Bool :=
 if (getNum xs at_).2.2 = true ∧ (getNum xs at_).1 ≤ xs.length - (getNum xs at_).2.1 then
  (txt ((xs.drop (getNum xs at_).2.1.toNat).take (getNum xs at_).1.toNat), (getNum xs at_).2.1 + (getNum xs at_).1, true)
 else (⟨#[]⟩, 0, false)
theorem getText_no {xs : List Int} {at_ n p : Int} {ok : Bool} (h : getNum xs at_ = (n, p, ok)) (hb : ok = false ∨ (xs.length : Int) - p < n) : getText xs at_ = (⟨#[]⟩, 0, false) := by
 unfold getText
 rw [h, if_neg]
 rintro ⟨h1, h2⟩
 simp only at h1 h2
 rcases hb with hb | hb
 ·
  rw [hb] at h1; simp at h1
 ·
  omega
theorem getText_yes {xs : List Int} {at_ : Int} {n p : Nat} (h : getNum xs at_ = ((n : Int), (p : Int), true)) (hb : (n : Int) ≤ xs.length - (p : Int)) : getText xs at_ = (txt ((xs.drop p).take n), (p : Int) + (n : Int), true) := by
 unfold getText
 rw [h, if_pos ⟨rfl, hb⟩]
 rfl
theorem getText_bd {xs : List Int} {at_ p : Int} {s : ByteArray} (h : getText xs at_ = (s, p, true)) : 0 < p ∧ p ≤ xs.length ∧ s.size ≤ xs.length ∧ 0 ≤ at_ ∧ at_ < p := by
 unfold getText at h
 split at h
 ·
  rename_i hc
  obtain ⟨n, q, ok, hg⟩ : ∃ n q ok, getNum xs at_ = (n, q, ok) := ⟨_, _, _, rfl⟩
  rw [hg] at h hc
  simp only at h hc
  obtain ⟨rfl, hc2⟩ := hc
  have hb := getNum_bd hg
  simp only [Prod.mk.injEq, and_true] at h
  obtain ⟨rfl, rfl⟩ := h
  refine ⟨by omega, by omega, ?_, by omega, by omega⟩
  show (txt _).data.size ≤ _
  simp [txt, u8s]
  omega
 ·
  simp at h
def rd (xs : List Int) : Nat → Int → Option (List ByteArray × Int)
 | 0, p => some ([], p)
 | n + 1, p => if (getText xs p).2.2 = true then (rd xs n (getText xs p).2.1).map fun r => ((getText xs p).1 :: r.1, r.2) else none
theorem rd_no {xs : List Int} {n : Nat} {p q : Int} {s : ByteArray} (h : getText xs p = (s, q, false)) : rd xs (n + 1) p = none := by
 rw [rd, h]; rfl
theorem rd_yes {xs : List Int} {n : Nat} {p q : Int} {s : ByteArray} (h : getText xs p = (s, q, true)) : rd xs (n + 1) p = (rd xs n q).map fun r => (s :: r.1, r.2) := by
 rw [rd, h]; rfl
def getTexts (xs : List Int) (at_ : Int) : List ByteArray × Int × Bool :=
 if (getNum xs at_).2.2 = true ∧ (getNum xs at_).1 ≤ 200 then
  match rd xs (getNum xs at_).1.toNat (getNum xs at_).2.1 with
  | some (l, q) => (l, q, true)
  | none => ([], 0, false)
 else ([], 0, false)
theorem getTexts_no {xs : List Int} {at_ n p : Int} {ok : Bool} (h : getNum xs at_ = (n, p, ok)) (hb : ok = false ∨ 200 < n) : getTexts xs at_ = ([], 0, false) := by
 unfold getTexts
 rw [h, if_neg]
 rintro ⟨h1, h2⟩
 simp only at h1 h2
 rcases hb with hb | hb
 ·
  rw [hb] at h1; simp at h1
 ·
  omega
theorem getTexts_none {xs : List Int} {at_ p : Int} {n : Nat} (h : getNum xs at_ = ((n : Int), p, true)) (hn : n ≤ 200) (hr : rd xs n p = none) : getTexts xs at_ = ([], 0, false) := by
 unfold getTexts
 rw [h, if_pos ⟨rfl, by simp only; omega⟩]
 simp [hr]
theorem getTexts_some {xs : List Int} {at_ p q : Int} {n : Nat} {l : List ByteArray} (h : getNum xs at_ = ((n : Int), p, true)) (hn : n ≤ 200) (hr : rd xs n p = some (l, q)) : getTexts xs at_ = (l, q, true) := by
 unfold getTexts
 rw [h, if_pos ⟨rfl, by simp only; omega⟩]
 simp [hr]
theorem rd_len (xs : List Int) (n : Nat) : ∀ (p q : Int) (l : List ByteArray), rd xs n p = some (l, q) → l.length = n := by
 induction n with
 | zero => intro p q l h; simp [rd] at h; rw [h.1]; rfl
 | succ n ih =>
  intro p q l h
  rw [rd] at h
  split at h
  ·
   rw [Option.map_eq_some_iff] at h
   obtain ⟨⟨l2, q2⟩, h1, h2⟩ := h
   simp only [Prod.mk.injEq] at h2
   rw [← h2.1, List.length_cons, ih _ _ _ h1]
  ·
   simp at h
theorem getTexts_len (xs : List Int) (at_ : Int) : (getTexts xs at_).1.length ≤ 200 := by
 unfold getTexts
 split
 ·
  rename_i hc
  split
  ·
   rename_i l q hr
   have := rd_len xs _ _ _ _ hr
   simp only
   omega
  ·
   simp
 ·
  simp
end Go.Proofs.YtfpaichdkddglaaGreatDoor.Plain
