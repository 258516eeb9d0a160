/- Texts in one: Ent7, Ent6, Puts, Ent8, Gets, GetT, Strs, GetTs. -/
import Derived.Test.YtlhmemnaiobgkaaGreatDoorPk11
import Derived.Test.YtlhmemnaiobgkaaGreatDoorPk4
import Derived.Test.YtlhmemnaiobgkaaGreatDoorPk12
import Derived.Test.YtlhmemnaiobgkaaGreatDoorPk8
import Derived.Test.YtlhmemnaiobgkaaGreatDoorPk2
import Derived.Test.YtlhmemnaiobgkaaGreatDoorPk6
import Derived.Test.YtlhmemnaiobgkaaGreatDoorPk3
import Derived.Test.YtlhmemnaiobgkaaGreatDoorRows
import Derived.Test.YtlhmemnaiobgkaaGreatDoorPk1
import Derived.StillTailTactics
import Derived.Laws.CopyOwn
import Derived.WalkKit
import Derived.WalkSpells
import Derived.WalkLawsBesides
import Derived.Deep.QuietTactic
import Derived.BigQuiet
import Derived.Deep.RegionWith
/- Chapter 5, the specification's side: names. -/
namespace Go.Proofs.YtlhmemnaiobgkaaGreatDoor.Ent
open Go.RowKit Go.Proofs.YtlhmemnaiobgkaaGreatDoor.Mem Go.Proofs.YtlhmemnaiobgkaaGreatDoor.Laws Go.Proofs.YtlhmemnaiobgkaaGreatDoor.Bytes Go.Proofs.YtlhmemnaiobgkaaGreatDoor.Sha Go.Proofs.YtlhmemnaiobgkaaGreatDoor.Ver Go.Proofs.YtlhmemnaiobgkaaGreatDoor.Mod
set_option linter.unusedVariables false
set_option linter.unusedSimpArgs false

/-- the name of a need, or of an entry -/
def name5 (n : Nd) : ByteArray := if n.ok = true then n.path ++ ⟨#[64]⟩ ++ Plain.txt (verText n.a n.b n.c n.pre) else ⟨#[]⟩

def nc5 (n : Nd) : Array Value := #[.string n.path, .int .i64 n.a, .int .i64 n.b, .int .i64 n.c, .string n.pre]
theorem sizeN5 (n : Nd) : (Tryz.prog.info? 38).map (·.size) = some (nc5 n).size := by
  show _ = some 5
  kernel_rfl
theorem oneN5 (n : Nd) : (nc5 n).all (·.oneCell') = true := by simp [nc5, Value.oneCell']
theorem rowStay5 {w w' : World} {g : Nat} {o : Obj} (h : w.heap[g]? = some o) (hb : Below w.heap.size w w') : w'.heap[g]? = some o := (hb.block g (Array.getElem?_eq_some_iff.1 h).1).trans h
def nil5 : Nd := ⟨⟨#[]⟩, 0, 0, 0, ⟨#[]⟩⟩
/-- the need whose name a text is -/
def pn (x : ByteArray) (q : (Int × Int × Int × ByteArray) × Bool) : Nd × Bool :=
  if q.2 = true ∧ fits4 x q.1.1 q.1.2.1 q.1.2.2.1 q.1.2.2.2 = true then (⟨x, q.1.1, q.1.2.1, q.1.2.2.1, q.1.2.2.2⟩, true) else (nil5, false)
def pname (s : ByteArray) : Nd × Bool := match splitT 64 s with
  | [x, y] => pn x (parseV y)
  | _ => (nil5, false)
theorem pname_no {s : ByteArray} (h : (splitT 64 s).length ≠ 2) : pname s = (nil5, false) := by
  unfold pname
  match hs : splitT 64 s with
  | [] => rfl
  | [_] => rfl
  | [_, _] => rw [hs] at h; simp at h
  | _ :: _ :: _ :: _ => rfl

theorem cut_size (t : ByteArray) : (cut t).2.size ≤ t.size := by
  unfold cut
  split
  · simp
  · exact Nat.zero_le _
theorem parse3_size (s u pr : ByteArray) : (parse3 s u pr).1.2.2.2.size ≤ pr.size := by
  unfold parse3
  split
  · split
    · exact Nat.le_refl _
    · exact Nat.zero_le _
  · exact Nat.zero_le _
theorem parseV_size (s : ByteArray) : (parseV s).1.2.2.2.size ≤ s.size := by
  unfold parseV
  split
  · refine Nat.le_trans (parse3_size _ _ _) (Nat.le_trans (cut_size _) ?_)
    simp
  · exact Nat.zero_le _
theorem region_tail5 {P : Program} {id : Nat} {Q : Exit → Act → World → Prop} {a : Act} {w : World} {l : List Oper} (n : Nat) (hm : P.follows .mixedOrders = true) (hB : Region.lexTailB .any l.toArray n = true)
    (h : wpStill P l.toArray w.drew (fun a' => wpList P l.toArray Q (l.drop n) a' w.drew) (l.take n) a) : (Code.region id l.toArray true).wp P Q a w := wp_region_still_tail n hm hB h
theorem below_row {B g : Nat} {a w : World} (h : Below B a w) (hg : B ≤ g) (cs : Array Value) : Below B a (w.setRow g cs) := below_setRow h hg cs

end Go.Proofs.YtlhmemnaiobgkaaGreatDoor.Ent

/- Chapter 5, the specification's side: is an entry right. -/
namespace Go.Proofs.YtlhmemnaiobgkaaGreatDoor.Ent
open Go.RowKit Go.Proofs.YtlhmemnaiobgkaaGreatDoor.Mem Go.Proofs.YtlhmemnaiobgkaaGreatDoor.Laws Go.Proofs.YtlhmemnaiobgkaaGreatDoor.Bytes Go.Proofs.YtlhmemnaiobgkaaGreatDoor.Sha Go.Proofs.YtlhmemnaiobgkaaGreatDoor.Ver Go.Proofs.YtlhmemnaiobgkaaGreatDoor.Mod
set_option linter.unusedVariables false
set_option linter.unusedSimpArgs false

/-- does it need itself -/
def self5 (n : Nd) (l : List Nd) : Bool := l.any fun x => eqT x.path n.path
def entry5 (n : Nd) (l : List Nd) : Bool := !self5 n l && n.ok && decide (l.length ≤ 8) && rise l

theorem self5_take {n x : Nd} {l : List Nd} {k : Nat} (h : l[k]? = some x) : self5 n (l.take (k + 1)) = (self5 n (l.take k) || eqT x.path n.path) := by
  unfold self5
  rw [List.take_add_one, h, List.any_append]
  simp
theorem self5_bad {n x : Nd} {l : List Nd} {k : Nat} (h : l[k]? = some x) (he : eqT x.path n.path = true) : self5 n l = true := by
  unfold self5
  rw [List.any_eq_true]
  exact ⟨x, List.mem_of_getElem? h, he⟩

set_option maxRecDepth 1000000 in
set_option maxHeartbeats 2000000 in
theorem entryok_spec (w : World) (n : Nd) (v : Value) (l : List Nd) (h : Sd w v l) (hl : l.length ≤ 1000000000000) (hp : n.path.size ≤ 1000000000000) (hq : n.pre.size ≤ 1000000000000) (hz : ∀ n ∈ l, n.path.size ≤ 1000000000000 ∧ n.pre.size ≤ 1000000000000) :
    Calls Tryz.prog 46 #[.agg #[.string n.path, .int .i64 n.a, .int .i64 n.b, .int .i64 n.c, .string n.pre, v]] w fun e w' => e = .returned (.bool (entry5 n l)) ∧ Below w.heap.size w w' := by
  have HD : Hid (entry5 n l = (!self5 n l && n.ok && decide (l.length ≤ 8) && rise l)) := rfl
  have q1 : ∀ W, _ := fun W => fits_spec W n.path n.a n.b n.c n.pre hp hq
  unfold Ver.ver at q1
  have q2 : ∀ W, Below w.heap.size w W → _ := fun W hW => rising_spec W v l (h.later hW) hl hz
  have HR : Hid ((w.alloc (.cells #[.string n.path, .int .i64 n.a, .int .i64 n.b, .int .i64 n.c, .string n.pre, v] 34)).heap[w.heap.size]? = some (.cells (ec n v) 34 (0, 0))) := heap_alloc_new w _
  have HB : Hid (Below w.heap.size w (w.alloc (.cells #[.string n.path, .int .i64 n.a, .int .i64 n.b, .int .i64 n.c, .string n.pre, v] 34))) := (Below.refl _ _).alloc (Nat.le_refl _) _
  have HS : Hid (Sd w v l) := h
  obtain ⟨hcl, ao, cap, rfl, hcap, hnn, _⟩ := h
  clear hz
  go_enter Tryz.func46, Tryz.ntmps46
  go_wp2
  go_loopw [3] (fun i wr => ∃ k : Nat, k ≤ l.length ∧ i = .int .i64 (k : Int) ∧ Hid (self5 n (l.take k) = false) ∧ wr.heap[w.heap.size]? = some (.cells (ec n (.slice ao l.length cap)) 34 (0, 0)) ∧ Below w.heap.size w wr) (fun i _ => l.length - (intOf i).toNat)
  case atStart => exact ⟨0, Nat.zero_le _, rfl, by show _ = _; simp [self5], HR.out, HB.out⟩
  case round =>
    obtain ⟨k, hk, rfl, HA, hR, hB⟩ := hrel
    have k0 : wr.cell? ⟨w.heap.size, 0, none⟩ = some (.string n.path) := row_cells hR 0
    have k5 : wr.cell? ⟨w.heap.size, 5, none⟩ = some (.slice ao l.length cap) := row_cells hR 5
    have HR1 : Hid (wr.heap[w.heap.size]? = some (.cells (ec n (.slice ao l.length cap)) 34 (0, 0))) := hR
    clear hR HR HB
    by_cases hlt : k < l.length
    · obtain ⟨x, hn⟩ : ∃ n, l[k]? = some n := ⟨l[k], by simp [hlt]⟩
      obtain ⟨b, off, cap', he, _, c0, _, _, _, _⟩ := Sd.at (HS.out.later hB) hn
      simp only [Value.slice.injEq] at he
      obtain ⟨rfl, _, rfl⟩ := he
      obtain ⟨eq, heq⟩ : ∃ b, eqT x.path n.path = b := ⟨_, rfl⟩
      have heq' : (x.path.toList == n.path.toList) = eq := heq
      have HT : Hid (self5 n (l.take (k + 1)) = eq) := by show _ = _; rw [self5_take hn, HA.out, heq]; rfl
      have HX : Hid (eq = true → entry5 n l = false) := by
        intro h1
        rw [HD.out, self5_bad hn (by rw [heq, h1])]
        rfl
      clear hn heq
      cases eq
      · go_wp2_with fail
        go_quiet (fail)
        go_wp2
        go_roundw
        case rel => exact ⟨k + 1, by omega, by go_num, HT, HR1.out, Below.trans hB ⟨rfl, rfl, rfl, Nat.le_refl _, fun _ _ => rfl⟩⟩
        case measure => simp [intOf]; omega
      · have HF : Hid (entry5 n l = false) := HX.out rfl
        clear HX
        go_wp2_with fail
        go_quiet (fail)
        go_wp2
        go_ret
        exact ⟨by rw [HF.out]; rfl, Below.trans hB ⟨rfl, rfl, rfl, Nat.le_refl _, fun _ _ => rfl⟩⟩
    · have HN : Hid (self5 n l = false) := by
        show _ = _
        have := HA.out
        rwa [List.take_of_length_le (by omega)] at this
      have k1 : wr.cell? ⟨w.heap.size, 1, none⟩ = some (.int .i64 n.a) := row_cells HR1.out 1
      have k2 : wr.cell? ⟨w.heap.size, 2, none⟩ = some (.int .i64 n.b) := row_cells HR1.out 2
      have k3 : wr.cell? ⟨w.heap.size, 3, none⟩ = some (.int .i64 n.c) := row_cells HR1.out 3
      have k4 : wr.cell? ⟨w.heap.size, 4, none⟩ = some (.string n.pre) := row_cells HR1.out 4
      obtain ⟨f, hf⟩ : ∃ f, fits4 n.path n.a n.b n.c n.pre = f := ⟨_, rfl⟩
      simp only [hf] at q1
      have HE : Hid (entry5 n l = (f && decide (l.length ≤ 8) && rise l)) := by
        show _ = _
        rw [HD.out, HN.out]
        unfold Nd.ok
        rw [hf]
        rfl
      clear hf
      go_wp2_with fail
      refine (q1 _).mono ?_
      rintro e w2 ⟨rfl, b2⟩
      have hB2 : Below w.heap.size w w2 := hB.trans (b2.mono hB.size)
      have j5 : w2.cell? ⟨w.heap.size, 5, none⟩ = some (.slice ao l.length cap) := row_cells (rowKeep HR1.out b2) 5
      have q3 := q2 w2 hB2
      clear q1 q2 k0 k1 k2 k3 k4 k5 HR1 b2 hB
      cases f
      · have HF : Hid (entry5 n l = false) := HE.out
        go_wp2
        go_ret
        exact ⟨by rw [HF.out]; rfl, hB2⟩
      · by_cases h8 : l.length ≤ 8
        · obtain ⟨r, hr⟩ : ∃ r, rise l = r := ⟨_, rfl⟩
          rw [hr] at q3
          have HF : Hid (entry5 n l = r) := by show _ = _; rw [HE.out, decide_eq_true h8, hr]; rfl
          have d8 : decide ((l.length : Int) ≤ 8) = true := by simp; omega
          clear hr
          go_wp2_with fail
          refine q3.mono ?_
          rintro e w3 ⟨rfl, b3⟩
          go_wp2
          go_ret
          exact ⟨by rw [HF.out]; rfl, hB2.trans (b3.mono hB2.size)⟩
        · have HF : Hid (entry5 n l = false) := by show _ = _; rw [HE.out, decide_eq_false h8]; rfl
          have d8 : decide ((l.length : Int) ≤ 8) = false := by simp; omega
          go_wp2
          go_ret
          exact ⟨by rw [HF.out]; rfl, hB2⟩

end Go.Proofs.YtlhmemnaiobgkaaGreatDoor.Ent

/- Contracts of PutNum, the program's and the specification's: both make, in new memory, the bytes that were there and the number's groups behind them. -/
namespace Go.Proofs.YtlhmemnaiobgkaaGreatDoor.Puts
open Go.RowKit Go.Proofs.YtlhmemnaiobgkaaGreatDoor.Mem Go.Proofs.YtlhmemnaiobgkaaGreatDoor.Plain Go.Proofs.YtlhmemnaiobgkaaGreatDoor.Laws Go.Proofs.YtlhmemnaiobgkaaGreatDoor.Bytes
set_option linter.unusedVariables false

/-- the bytes of a number as it is put -/
def num (n : Int) : List Int := enc (clampN n).toNat
theorem num_byt (n : Int) : Byt (num n) := enc_byte _
theorem num_len (n : Int) : 1 ≤ (num n).length ∧ (num n).length ≤ 5 := ⟨enc_len _, enc_len5 _ (by have := clampN_bd n; omega)⟩

theorem byte_small {m : Nat} (h : m < 128) (ys : List Int) : ys ++ [(m : Int)] = ys ++ enc m := by rw [enc_small h]

theorem one_byte (x : Int) : ∀ u ∈ [Value.int .u8 x], u.oneCell' = true := by
  intro u hu
  rw [List.mem_singleton] at hu
  rw [hu]
  rfl

theorem new_cell (w : World) (u : Value) (t : TypeId) : (w.alloc (.cells #[u] t)).cell? ⟨w.heap.size, 0, none⟩ = some u := by
  rw [cell_of_row _ w.heap.size 0 #[u] t (0, 0) (heap_alloc_new w _)]
  rfl

theorem Own.empty (w : World) (lo : Nat) (h : lo ≤ w.heap.size) : Own (w.alloc (.cells #[] 5)) lo (w.alloc (.cells #[] 5)).heap.size 5 (.slice (some ⟨w.heap.size, 0, none⟩) 0 0) (bs []) :=
  Own.of (World.ownsRow_lit w #[] 0 h (Nat.zero_le _) rfl)

/-- the bytes of texts, each behind its length -/
def tx (s : ByteArray) : List Int := num (s.size : Int) ++ sb s
def tot : List ByteArray → Nat
  | [] => 0
  | s :: r => s.size + tot r
def txs : List ByteArray → List Int
  | [] => []
  | s :: r => tx s ++ txs r
theorem tx_len (s : ByteArray) : (tx s).length ≤ s.size + 5 := by
  unfold tx; have := num_len (s.size : Int); rw [List.length_append, sb_len]; omega
theorem txs_len (l : List ByteArray) : (txs l).length ≤ 5 * l.length + tot l := by
  induction l with
  | nil => simp [txs, tot]
  | cons s r ih => have := tx_len s; simp only [txs, tot, List.length_append, List.length_cons]; omega
theorem tx_byt (s : ByteArray) : Byt (tx s) := (num_byt _).app (sb_byt _)

theorem Sl.oneStr (w : World) (s : ByteArray) (t : TypeId) : Sl (w.alloc (.cells #[.string s] t)) (.slice (some ⟨w.heap.size, 0, none⟩) 1 1) (ss [s]) := Sl.one w (.string s) t

theorem drop_str {l : List ByteArray} {k : Nat} {s : ByteArray} (h : l[k]? = some s) : l.drop k = s :: l.drop (k + 1) := by
  obtain ⟨hk, rfl⟩ := List.getElem?_eq_some_iff.1 h
  exact List.drop_eq_getElem_cons hk

end Go.Proofs.YtlhmemnaiobgkaaGreatDoor.Puts

/- Chapter 5, the specification's side: an entry's text. -/
namespace Go.Proofs.YtlhmemnaiobgkaaGreatDoor.Ent
open Go.RowKit Go.Proofs.YtlhmemnaiobgkaaGreatDoor.Mem Go.Proofs.YtlhmemnaiobgkaaGreatDoor.Laws Go.Proofs.YtlhmemnaiobgkaaGreatDoor.Bytes Go.Proofs.YtlhmemnaiobgkaaGreatDoor.Sha Go.Proofs.YtlhmemnaiobgkaaGreatDoor.Ver Go.Proofs.YtlhmemnaiobgkaaGreatDoor.Mod
set_option linter.unusedVariables false
set_option linter.unusedSimpArgs false

/-- an entry's text -/
def put5 (n : Nd) (l : List Nd) : ByteArray := if entry5 n l = true then Plain.txt (Puts.tx (name5 n) ++ Puts.num (l.length : Int) ++ Puts.txs (l.map name5)) else ⟨#[]⟩

theorem name5_size {n : Nd} : (name5 n).size ≤ n.path.size + n.pre.size + 100 := by
  unfold name5
  split
  · rw [ByteArray.size_append, ByteArray.size_append, txt_sizev]
    have h1 : (⟨#[64]⟩ : ByteArray).size = 1 := rfl
    have : (verText n.a n.b n.c n.pre).length ≤ n.pre.size + 50 := by
      unfold verText vt
      split
      · have h6 : ∀ m, (digF 6 m).length ≤ 7 := fun m => (digF_len 6 m).2
        have := h6 n.a.toNat
        have := h6 n.b.toNat
        have := h6 n.c.toNat
        split <;> simp [sb_len] <;> omega
      · simp
    omega
  · exact Nat.zero_le _
theorem txs_byt5 : ∀ l : List ByteArray, Byt (Puts.txs l) := by
  intro l
  induction l with
  | nil => intro x hx; cases hx
  | cons s r ih => exact (Puts.tx_byt s).app ih
theorem keepB {W W' : World} {p : Addr} {x : Value} {B : Nat} (h : W.cell? p = some x) (b : Below B W W') (hp : p.block < B) : W'.cell? p = some x := (b.cell hp).trans h
theorem tot_name (l : List Nd) (h : ∀ x ∈ l, x.path.size ≤ 1048576 ∧ x.pre.size ≤ 1048576) : Puts.tot (l.map name5) ≤ l.length * 2100000 := by
  induction l with
  | nil => simp [Puts.tot]
  | cons x r ih =>
    have h1 := h x (by simp)
    have h2 := name5_size (n := x)
    have h3 := ih (fun y hy => h y (by simp [hy]))
    simp only [List.map_cons, Puts.tot, List.length_cons]
    omega

end Go.Proofs.YtlhmemnaiobgkaaGreatDoor.Ent

/- Contracts of GetNum, the program's and the specification's: both answer 'getNum' of the bytes, and turn nothing. -/
namespace Go.Proofs.YtlhmemnaiobgkaaGreatDoor.Gets
open Go.RowKit Go.Proofs.YtlhmemnaiobgkaaGreatDoor.Mem Go.Proofs.YtlhmemnaiobgkaaGreatDoor.Plain
set_option linter.unusedVariables false

theorem ret3 {a a' b b' : Int} {c c' : Bool} (h1 : a = a') (h2 : b = b') (h3 : c = c') : Ending.returned (.tuple #[.int .i64 a, .int .i64 b, .bool c]) = .returned (.tuple #[.int .i64 a', .int .i64 b', .bool c']) := by rw [h1, h2, h3]

theorem getNum_out {xs : List Int} {at_ : Int} (h : at_ < 0 ∨ (xs.length : Int) ≤ at_) : getNum xs at_ = (0, 0, false) := by
  unfold getNum; rw [if_neg (by omega)]
theorem getNum_none {xs : List Int} {a : Nat} (ha : a < xs.length) (h : dec 0 0 1 (xs.drop a) = none) : getNum xs (a : Int) = (0, 0, false) := by
  unfold getNum; rw [if_pos (by omega)]; simp [h]
theorem getNum_some {xs : List Int} {a : Nat} {n : Int} {k : Nat} (ha : a < xs.length) (h : dec 0 0 1 (xs.drop a) = some (n, k)) : getNum xs (a : Int) = (n, (a : Int) + k, true) := by
  unfold getNum; rw [if_pos (by omega)]; simp [h]

theorem drop_at {xs : List Int} {a k : Nat} {c : Int} (h : xs[a + k]? = some c) : xs.drop (a + k) = c :: xs.drop (a + (k + 1)) := by
  obtain ⟨hk, rfl⟩ := List.getElem?_eq_some_iff.1 h
  rw [List.drop_eq_getElem_cons hk]; rfl

theorem dec_more {k : Nat} {N W c : Int} {r : List Int} (h5 : k ≠ 5) (hc : 128 ≤ c) : dec k N W (c :: r) = dec (k + 1) (N + c % 128 * W) (W * 128) r := by
  rw [dec, if_neg h5, if_pos hc]
theorem dec_five {N W c : Int} {r : List Int} : dec 5 N W (c :: r) = none := by rw [dec, if_pos rfl]
theorem dec_bad {k : Nat} {N W c : Int} {r : List Int} (h5 : k ≠ 5) (hc : c < 128) (hb : 1000000000 < N + c % 128 * W ∨ (0 < k ∧ c % 128 = 0)) : dec k N W (c :: r) = none := by
  rw [dec, if_neg h5, if_neg (by omega), if_pos hb]
theorem dec_good {k : Nat} {N W c : Int} {r : List Int} (h5 : k ≠ 5) (hc : c < 128) (hb : ¬ (1000000000 < N + c % 128 * W ∨ (0 < k ∧ c % 128 = 0))) : dec k N W (c :: r) = some (N + c % 128 * W, k + 1) := by
  rw [dec, if_neg h5, if_neg (by omega), if_neg hb]

theorem pow_bd {k : Nat} (hk : k < 5) : 1 ≤ (128 : Int) ^ k ∧ (128 : Int) ^ k ≤ 268435456 := by
  rcases (show k = 0 ∨ k = 1 ∨ k = 2 ∨ k = 3 ∨ k = 4 by omega) with rfl | rfl | rfl | rfl | rfl <;> decide
theorem prod_bd {c W : Int} (hW : 1 ≤ W) : 0 ≤ c % 128 * W ∧ c % 128 * W ≤ 127 * W :=
  ⟨Int.mul_nonneg (by omega) (by omega), Int.mul_le_mul_of_nonneg_right (by omega) (by omega)⟩

theorem and127b {c : Int} (h : 0 ≤ c ∧ c ≤ 255) : bits .and .i64 c 127 = c % 128 := and127 h.1 (by omega)

end Go.Proofs.YtlhmemnaiobgkaaGreatDoor.Gets

/- Contracts of GetText, the program's and the specification's: both answer 'getText' of the bytes, and turn nothing. -/
namespace Go.Proofs.YtlhmemnaiobgkaaGreatDoor.GetT
open Go.RowKit Go.Proofs.YtlhmemnaiobgkaaGreatDoor.Mem Go.Proofs.YtlhmemnaiobgkaaGreatDoor.Plain
set_option linter.unusedVariables false

theorem conv_none (ao : Option Addr) (c : Nat) (w : World) : (convert 22 9 (.slice ao 0 c)).run Tryz.prog w = .ok (.string ⟨#[]⟩) w := by
  cases ao with
  | none => rw [run_convert_bytes_string w 22 9 5 none 0 c Tryz.underlying22 Tryz.underlying5 Tryz.underlying9]; rfl
  | some a => exact run_convert_bytes_back w 22 9 5 a c [] Tryz.underlying22 Tryz.underlying5 Tryz.underlying9 (fun j hj => by simp at hj)

theorem conv_some {w : World} {xs : List Int} {b off p n c : Nat} (hb : Byt xs) (hcell : ∀ j, j < xs.length → w.cell? ⟨b, off + j, none⟩ = (bs xs)[j]?) (hn : p + n ≤ xs.length) :
    (convert 22 9 (.slice (some ⟨b, off + p, none⟩) n c)).run Tryz.prog w = .ok (.string (txt ((xs.drop p).take n))) w := by
  have hl : (u8s ((xs.drop p).take n)).length = n := by rw [u8s_len]; simp; omega
  have h := run_convert_bytes_back (P := Tryz.prog) w 22 9 5 ⟨b, off + p, none⟩ c (u8s ((xs.drop p).take n)) Tryz.underlying22 Tryz.underlying5 Tryz.underlying9 (fun j hj => by
    rw [hl] at hj
    rw [Addr.add_lit, Nat.add_assoc, hcell (p + j) (by omega), bs_get]
    have hx : xs[p + j]? = some (xs[p + j]'(by omega)) := by simp
    have hy := hb.at hx
    rw [hx]
    simp only [u8s, List.getElem_map, List.getElem_take, List.getElem_drop, Option.map_some]
    rw [u8_back hy])
  rw [hl] at h
  exact h

theorem rets {s s' : ByteArray} {b b' : Int} {c c' : Bool} (h1 : s = s') (h2 : b = b') (h3 : c = c') : Ending.returned (.tuple #[.string s, .int .i64 b, .bool c]) = .returned (.tuple #[.string s', .int .i64 b', .bool c']) := by rw [h1, h2, h3]

end Go.Proofs.YtlhmemnaiobgkaaGreatDoor.GetT

/- Contracts of the laws' own small functions on lists of texts: a copy, a comparison, how much there is, marks laid, marks looked for. -/
namespace Go.Proofs.YtlhmemnaiobgkaaGreatDoor.Strs
open Go.RowKit Go.Proofs.YtlhmemnaiobgkaaGreatDoor.Mem Go.Proofs.YtlhmemnaiobgkaaGreatDoor.Bytes
set_option linter.unusedVariables false

theorem info9 : (Tryz.prog.info? 9).map (fun i => (i.zero, i.size, i.bytes)) = some (some (.string ⟨#[]⟩), 1, 16) := by kernel_rfl

theorem tot_take (l : List ByteArray) (k : Nat) (s : ByteArray) (h : l[k]? = some s) : Puts.tot (l.take (k + 1)) = Puts.tot (l.take k) + s.size := by
  induction l generalizing k with
  | nil => simp at h
  | cons x r ih =>
    cases k with
    | zero => simp at h; subst h; simp [Puts.tot]
    | succ k => simp at h; simp only [List.take_succ_cons, Puts.tot]; rw [ih k h]; omega

/-- the digits of a number, at most f of them more -/
def digF : Nat → Nat → List UInt8
  | 0, _ => []
  | f + 1, n => if n = 0 then [] else digF f (n / 10) ++ [UInt8.ofNat (48 + n % 10)]
def dig (n : Nat) : List UInt8 := digF n n
theorem digF_any (f : Nat) : ∀ g n, n ≤ f → n ≤ g → digF f n = digF g n := by
  induction f with
  | zero =>
    intro g n h1 h2
    obtain rfl : n = 0 := by omega
    cases g with
    | zero => rfl
    | succ g => rw [digF, digF, if_pos rfl]
  | succ f ih =>
    intro g n h1 h2
    cases g with
    | zero =>
      obtain rfl : n = 0 := by omega
      rw [digF, digF, if_pos rfl]
    | succ g =>
      rw [digF, digF]
      split
      · rfl
      · rw [ih g (n / 10) (by omega) (by omega)]
theorem dig_zero : dig 0 = [] := rfl
theorem dig_step {n : Nat} (h : ¬ n = 0) : dig n = dig (n / 10) ++ [UInt8.ofNat (48 + n % 10)] := by
  unfold dig
  obtain ⟨m, rfl⟩ : ∃ m, n = m + 1 := ⟨n - 1, by omega⟩
  rw [digF, if_neg h, digF_any m ((m + 1) / 10) ((m + 1) / 10) (by omega) (by omega)]
/-- the text of a mark -/
def mt (n : Nat) : ByteArray := ⟨(109 :: dig n).toArray⟩

theorem conv_byte (w : World) (x : Int) (hx : 0 ≤ x ∧ x ≤ 255) : ∀ (u : Int), u = x → (convert 22 9 (.slice (some ⟨w.heap.size, 0, none⟩) 1 1)).run Tryz.prog (w.alloc (.cells #[.int .u8 u] 5)) = .ok (.string ⟨#[UInt8.ofNat x.toNat]⟩) (w.alloc (.cells #[.int .u8 u] 5)) := by
  intro u hu
  subst hu
  refine run_convert_bytes_back (P := Tryz.prog) _ 22 9 5 ⟨w.heap.size, 0, none⟩ 1 [UInt8.ofNat u.toNat] Tryz.underlying22 Tryz.underlying5 Tryz.underlying9 (fun j hj => ?_)
  obtain rfl : j = 0 := by simp at hj; omega
  rw [Addr.add_lit, cell_of_row _ w.heap.size 0 #[.int .u8 u] 5 (0, 0) (heap_alloc_new w _)]
  simp only [List.getElem_cons_zero]
  rw [UInt8.toNat_ofNat', show ((u.toNat % 2 ^ 8 : Nat) : Int) = u by omega]
  rfl

theorem ba_cons (c : UInt8) (d : List UInt8) : (⟨#[c]⟩ : ByteArray) ++ ⟨d.toArray⟩ = ⟨(c :: d).toArray⟩ := by
  apply ByteArray.ext
  rw [ByteArray.data_append]
  simp

theorem ofNat48 (x : Nat) : (48 : UInt8) + UInt8.ofNat x = UInt8.ofNat (48 + x) := by
  rw [UInt8.ofNat_add]
  rfl

set_option maxRecDepth 1000000 in
set_option maxHeartbeats 1000000 in
/-- markText of a number above 0. -/
theorem mark_text (w : World) (k : Nat) (hk : 1 ≤ k) (hk2 : k ≤ 140737488355328) :
    Calls Tryz.prog 62 #[.int .i64 (k : Int)] w fun e w' => e = .returned (.string (mt k)) ∧ Below w.heap.size w w' := by
  go_enter Tryz.func62, Tryz.ntmps62
  go_wp2
  go_loopw [0, 3] (fun kk o wr => ∃ (m : Nat) (d : List UInt8), kk = .int .i64 (m : Int) ∧ o = .string ⟨d.toArray⟩ ∧ m + d.length ≤ k ∧ dig m ++ d = dig k ∧ Below w.heap.size w wr) (fun kk _ _ => (intOf kk).toNat)
  case atStart => exact ⟨k, [], rfl, rfl, by simp, by simp, Below.refl _ _⟩
  case round =>
    obtain ⟨m, d, rfl, rfl, hmd, hD0, hb⟩ := hrel
    have HD : Hid (dig m ++ d = dig k) := hD0
    have hsz := hb.size
    clear hD0
    by_cases h0 : 0 < m
    · have hconv := conv_byte wr (48 + (m : Int) % 10) (by omega)
      have HS : Hid (dig (m / 10) ++ (UInt8.ofNat (48 + m % 10) :: d) = dig k) := by
        show _ = _
        rw [← HD.out, dig_step (show ¬ m = 0 by omega), List.append_assoc]
        rfl
      go_wp2
      go_roundw
      case rel => exact ⟨m / 10, UInt8.ofNat (48 + m % 10) :: d, by go_num, by rw [ofNat48, ba_cons], by simp; omega, HS.out, hb.alloc hsz _⟩
      case measure => simp [intOf]; omega
    · go_wp2
      go_ret
      refine ⟨?_, hb⟩
      have h1 := HD.out
      obtain rfl : m = 0 := by omega
      rw [dig_zero, List.nil_append] at h1
      show Ending.returned (.string (_ ++ _)) = _
      rw [ba_cons, h1]
      rfl

/-- marks from k on, as texts -/
def mts (k n : Nat) : List ByteArray := (List.range n).map fun i => mt (k + i)
theorem mts_len (k n : Nat) : (mts k n).length = n := by simp [mts]
theorem mts_get (k n j : Nat) (h : j < n) : (mts k n)[j]? = some (mt (k + j)) := by simp [mts, h]

end Go.Proofs.YtlhmemnaiobgkaaGreatDoor.Strs

/- Contracts of GetTexts, the program's and the specification's: both answer 'getTexts' of the bytes; the list lies in new memory; nothing old is turned. -/
namespace Go.Proofs.YtlhmemnaiobgkaaGreatDoor.GetTs
open Go.RowKit Go.Proofs.YtlhmemnaiobgkaaGreatDoor.Mem Go.Proofs.YtlhmemnaiobgkaaGreatDoor.Plain Go.Proofs.YtlhmemnaiobgkaaGreatDoor.Laws
set_option linter.unusedVariables false

theorem one_str (s : ByteArray) : ∀ u ∈ [Value.string s], u.oneCell' = true := by
  intro u hu
  rw [List.mem_singleton] at hu
  rw [hu]
  rfl

theorem Own.emptyS (w : World) (lo : Nat) (h : lo ≤ w.heap.size) : Own (w.alloc (.cells #[] 9)) lo (w.alloc (.cells #[] 9)).heap.size 9 (.slice (some ⟨w.heap.size, 0, none⟩) 0 0) (ss []) :=
  Own.of (World.ownsRow_lit w #[] 0 h (Nat.zero_le _) rfl)
theorem Own.nilS (w : World) (lo hi : Nat) : Own w lo hi 9 (.slice none 0 0) (ss []) :=
  ⟨World.ownsRow_nil w lo 9 1, fun g hg => by simp [Value.ownBlock] at hg⟩

/-- What GetTexts answers, and what of the world it leaves. -/
def Done (xs : List Int) (at_ : Int) (w : World) (e : Ending) (w' : World) : Prop :=
  ∃ v' : Value, e = .returned (.tuple #[v', .int .i64 (getTexts xs at_).2.1, .bool (getTexts xs at_).2.2]) ∧ Own w' w.heap.size w'.heap.size 9 v' (ss (getTexts xs at_).1) ∧ Below w.heap.size w w'

theorem done_no {xs : List Int} {at_ : Int} {w w' : World} {v' : Value} (hg : getTexts xs at_ = ([], 0, false)) (ho : Own w' w.heap.size w'.heap.size 9 v' (ss [])) (hb : Below w.heap.size w w') :
    Done xs at_ w (.returned (.tuple #[v', .int .i64 0, .bool false])) w' := by
  unfold Done
  rw [hg]
  exact ⟨v', rfl, ho, hb⟩
theorem done_yes {xs : List Int} {at_ q : Int} {l : List ByteArray} {w w' : World} {v' : Value} (hg : getTexts xs at_ = (l, q, true)) (ho : Own w' w.heap.size w'.heap.size 9 v' (ss l)) (hb : Below w.heap.size w w') :
    Done xs at_ w (.returned (.tuple #[v', .int .i64 q, .bool true])) w' := by
  unfold Done
  rw [hg]
  exact ⟨v', rfl, ho, hb⟩

end Go.Proofs.YtlhmemnaiobgkaaGreatDoor.GetTs
