/- Chapter 3, the specification's side: a number's text, a version's text. -/
import Derived.Test.YtnoopfpgkgjdcalVer3
import Derived.BigQuiet
import Derived.Deep.RegionHeld3
namespace Go.Proofs.Ytnoopfpgkgjdcal.Ver
open Go.RowKit Go.Proofs.Ytnoopfpgkgjdcal.Mem Go.Proofs.Ytnoopfpgkgjdcal.Laws Go.Proofs.Ytnoopfpgkgjdcal.Bytes Go.Proofs.Ytnoopfpgkgjdcal.Sha
set_option linter.unusedVariables false
set_option linter.unusedSimpArgs false

/-- a number's digits (at most f + 1 of them) -/
def digF : Nat → Nat → List Int
  | 0, n => [48 + (n : Int)]
  | f + 1, n => if n < 10 then [48 + (n : Int)] else digF f (n / 10) ++ [48 + ((n % 10 : Nat) : Int)]
theorem digF_byt (f : Nat) : ∀ n, n < 10 ^ (f + 1) → Byt (digF f n) := by
  induction f with
  | zero => intro n hn x hx; simp [digF] at hx; omega
  | succ f ih =>
    intro n hn
    unfold digF
    split
    · intro x hx; simp at hx; omega
    · refine (ih _ ?_).app (fun x hx => ?_)
      · rw [Nat.pow_succ] at hn; omega
      · rw [List.mem_singleton] at hx; omega
theorem digF_len (f : Nat) : ∀ n, 1 ≤ (digF f n).length ∧ (digF f n).length ≤ f + 1 := by
  induction f with
  | zero => intro n; simp [digF]
  | succ f ih =>
    intro n
    unfold digF
    split
    · simp
    · have := ih (n / 10); simp; omega
theorem txt_app (a b : List Int) : Plain.txt (a ++ b) = Plain.txt a ++ Plain.txt b := by
  apply ByteArray.ext
  rw [ByteArray.data_append]
  simp [Plain.txt, Plain.u8s]

theorem txt_sizev (l : List Int) : (Plain.txt l).size = l.length := by
  show (Plain.txt l).data.size = _
  simp [Plain.txt, Plain.u8s]

theorem conv_new (W : World) (x : Int) (h0 : 0 ≤ x) (h1 : x ≤ 255) : (convert 50 9 (.slice (some ⟨W.heap.size, 0, none⟩) 1 1)).run Try.prog (W.alloc (.cells #[.int .u8 x] 5)) = .ok (.string (Plain.txt [x])) (W.alloc (.cells #[.int .u8 x] 5)) :=
  conv_sl (zs := [x]) (Sl.one W (.int .u8 x) 5) (fun y hy => by rw [List.mem_singleton] at hy; omega)
theorem conv_late {W w5 : World} {x : Int} (h0 : 0 ≤ x) (h1 : x ≤ 255) (b5 : Below (W.alloc (.cells #[.int .u8 x] 5)).drew.heap.size (W.alloc (.cells #[.int .u8 x] 5)).drew w5) : (convert 50 9 (.slice (some ⟨W.heap.size, 0, none⟩) 1 1)).run Try.prog w5 = .ok (.string (Plain.txt [x])) w5 :=
  conv_sl (zs := [x]) (Sl.later (w := (W.alloc (.cells #[.int .u8 x] 5)).drew) (Sl.one W (.int .u8 x) 5) b5) (fun y hy => by rw [List.mem_singleton] at hy; omega)

set_option maxRecDepth 1000000 in
set_option maxHeartbeats 1000000 in
theorem text_spec (f : Nat) : ∀ (w : World) (n : Nat), f ≤ 17 → n < 10 ^ (f + 1) → Calls Try.prog 25 #[.int .i64 (n : Int)] w fun e w' => e = .returned (.string (Plain.txt (digF f n))) ∧ Below w.heap.size w w' := by
  induction f with
  | zero =>
    intro w n hf hn
    have hn' : n < 10 := by simpa using hn
    have hd : decide ((n : Int) < 10) = true := by simp; omega
    have hconv := conv_sl (zs := [48 + (n : Int)]) (Sl.one w (.int .u8 (48 + (n : Int))) 5) (fun x hx => by rw [List.mem_singleton] at hx; omega)
    clear hn
    go_enter Try.func25, Try.ntmps25
    go_wp2
    go_ret
    exact ⟨rfl, (Below.refl _ _).alloc (Nat.le_refl _) _⟩
  | succ f ih =>
    intro w n hf hn
    have hnb : n < 1000000000000000000 := Nat.lt_of_lt_of_le hn (by
      have : (10 : Nat) ^ (f + 1 + 1) ≤ 10 ^ 18 := Nat.pow_le_pow_right (by decide) (by omega)
      rw [show (10 : Nat) ^ 18 = 1000000000000000000 by decide] at this
      exact this)
    have hn2 : n / 10 < 10 ^ (f + 1) := by rw [Nat.pow_succ] at hn; omega
    by_cases hlt : n < 10
    · have HF : Hid (digF (f + 1) n = [48 + (n : Int)]) := by show _ = _; unfold digF; rw [if_pos hlt]
      have hd : decide ((n : Int) < 10) = true := by simp; omega
      have hconv := conv_sl (zs := [48 + (n : Int)]) (Sl.one w (.int .u8 (48 + (n : Int))) 5) (fun x hx => by rw [List.mem_singleton] at hx; omega)
      clear hn ih hn2
      go_enter Try.func25, Try.ntmps25
      go_wp2
      go_ret
      exact ⟨by rw [HF.out]; rfl, (Below.refl _ _).alloc (Nat.le_refl _) _⟩
    · have HF : Hid (Plain.txt (digF (f + 1) n) = Plain.txt (digF f (n / 10)) ++ Plain.txt [48 + ((n % 10 : Nat) : Int)]) := by
        show _ = _
        rw [show digF (f + 1) n = digF f (n / 10) ++ [48 + ((n % 10 : Nat) : Int)] by rw [digF, if_neg hlt], txt_app]
      have hd : decide ((n : Int) < 10) = false := by simp; omega
      have q : ∀ W, _ := fun W => ih W (n / 10) (by omega) hn2
      have e1 : ((n : Int)).tdiv 10 = ((n / 10 : Nat) : Int) := by rw [Int.tdiv_eq_ediv_of_nonneg (by omega)]; omega
      have e2 : ((n : Int)).tmod 10 = ((n % 10 : Nat) : Int) := by rw [Int.tmod_eq_emod_of_nonneg (by omega)]; omega
      have e3 : IntKind.i64.wrap (48 + ((n % 10 : Nat) : Int)) = 48 + ((n % 10 : Nat) : Int) := by rw [IntKind.wrap_i64]; omega
      have e4 : IntKind.u8.wrap (48 + ((n % 10 : Nat) : Int)) = 48 + ((n % 10 : Nat) : Int) := by rw [IntKind.wrap_u8]; omega
      have e5 : IntKind.i64.wrap ((n / 10 : Nat) : Int) = ((n / 10 : Nat) : Int) := by rw [IntKind.wrap_i64]; omega
      obtain ⟨m, hm⟩ : ∃ m, n / 10 = m := ⟨_, rfl⟩
      obtain ⟨r, hr⟩ : ∃ r, n % 10 = r := ⟨_, rfl⟩
      have hr10 : r < 10 := by omega
      rw [hm] at q e1 e5 HF
      rw [hr] at e2 e3 e4 HF
      have hcv : ∀ W : World, (convert 50 9 (.slice (some ⟨W.heap.size, 0, none⟩) 1 1)).run Try.prog (W.alloc (.cells #[.int .u8 (48 + (r : Int))] 5)) = .ok (.string (Plain.txt [48 + (r : Int)])) (W.alloc (.cells #[.int .u8 (48 + (r : Int))] 5)) := fun W => conv_new W _ (by omega) (by omega)
      have sz1 : (Plain.txt (digF f m)).size ≤ 20 := by rw [txt_sizev]; have := digF_len f m; omega
      have sz2 : (Plain.txt [48 + (r : Int)]).size = 1 := by rw [txt_sizev]; rfl
      have hcd : (convert 50 9 (.slice (some ⟨w.heap.size, 0, none⟩) 1 1)).run Try.prog (w.alloc (.cells #[.int .u8 (48 + (r : Int))] 5)).drew = .ok (.string (Plain.txt [48 + (r : Int)])) (w.alloc (.cells #[.int .u8 (48 + (r : Int))] 5)).drew := conv_sl (zs := [48 + (r : Int)]) (w := (w.alloc (.cells #[.int .u8 (48 + (r : Int))] 5)).drew) (Sl.one w (.int .u8 (48 + (r : Int))) 5) (fun y hy => by rw [List.mem_singleton] at hy; omega)
      clear hn ih hn2 hm hr
      go_enter Try.func25, Try.ntmps25
      go_wp2
      go_region_with (go_at_call 25; refine (q _).mono ?_; rintro e5 w5 ⟨rfl, b5⟩; try (have hc5 := conv_late (W := w) (x := 48 + (r : Int)) (by omega) (by omega) b5))
      all_goals go_wp2
      all_goals go_ret
      all_goals refine ⟨by rw [HF.out]; rfl, ?_⟩
      all_goals first | exact ((Below.drew (Below.refl w.heap.size w)).trans b5).alloc (by exact b5.size) _ | exact (Below.drew ((Below.refl w.heap.size w).alloc (Nat.le_refl _) _)).trans (b5.mono (by simp))

theorem keepCell {W W' : World} {p : Addr} {x : Value} (h : W.cell? p = some x) (b : Below W.heap.size W W') : W'.cell? p = some x := by
  rw [b.cell (World.block_lt_of_cell? W p h)]; exact h
theorem txt_sbv (s : ByteArray) : Plain.txt (sb s) = s := by
  apply ByteArray.ext
  apply Array.ext'
  show Plain.u8s (sb s) = _
  exact u8s_sb s

/-- a version's text -/
def vt (a b c : Int) (p : ByteArray) : List Int := [118] ++ digF 6 a.toNat ++ [46] ++ digF 6 b.toNat ++ [46] ++ digF 6 c.toNat ++ (if p.size = 0 then [] else [45] ++ sb p)
def verText (a b c : Int) (p : ByteArray) : List Int := if okV a b c p = true then vt a b c p else []

theorem inM_nat {a : Int} (h : inM a = true) : ∃ n : Nat, a = (n : Int) ∧ n ≤ 1000000 := by
  unfold inM at h
  have := of_decide_eq_true h
  exact ⟨a.toNat, by omega, by omega⟩

end Go.Proofs.Ytnoopfpgkgjdcal.Ver
