/- Plain mathematics: what chapter 7 tells of types and addresses. No program is read here. -/
import Derived.Test.YtdpgmdkclaahdaaWSmall
import Derived.Test.YtdpgmdkclaahdaaKit
namespace Go.Proofs.Ytdpgmdkclaahdaa.Nb
set_option linter.unusedVariables false
set_option linter.unusedSimpArgs false

theorem ba_ext (a b : ByteArray) (h : a.data.toList = b.data.toList) : a = b := by
  cases a; cases b; congr 1; exact Array.toList_inj.1 h
def emp : ByteArray := ⟨#[]⟩
/-- is there such a kind? -/
def kiB (k : Int) : Bool := decide (0 ≤ k) && decide (k ≤ 2)
def rightT (m f : Int) : Bool := kiB m && kiB f
def keyIP (m ip : Int) : Int := if m = 1 ∨ m = 2 then ip else 0
def keyPort (m port : Int) : Int := if m = 2 then port else 0
def thruT (m f n g : Int) : Bool := (rightT m f && rightT n g) && (if n = 0 then (!decide (g = 2) || decide (m = 0)) else decide (g = 0))
def ansT (m f n g : Int) : Bool := decide (n = 0) || !decide (f = 2)
def punchT (m f n g : Int) : Bool := (thruT m f n g && ansT m f n g) || (thruT n g m f && ansT n g m f)
def wAny : ByteArray := ⟨#[97, 110, 121]⟩
def wHost : ByteArray := ⟨#[104, 111, 115, 116]⟩
def wBoth : ByteArray := ⟨#[98, 111, 116, 104]⟩
def kindW (k : Int) : ByteArray := if k = 0 then wAny else if k = 1 then wHost else wBoth
def wordT (m f : Int) : ByteArray := if rightT m f then kindW m ++ ⟨#[47]⟩ ++ kindW f else ⟨#[]⟩
def hostIn (l : List (Int × Int)) (ip : Int) : Bool := l.any fun a => decide (a.1 = ip)
def bothIn (l : List (Int × Int)) (ip port : Int) : Bool := l.any fun a => decide (a.1 = ip) && decide (a.2 = port)
def passT (f : Int) (l : List (Int × Int)) (ip port : Int) : Bool := if f = 0 then true else if f = 1 then hostIn l ip else if f = 2 then bothIn l ip port else false
theorem both_host {l : List (Int × Int)} {ip port : Int} (h : bothIn l ip port = true) : hostIn l ip = true := by
  unfold bothIn at h; unfold hostIn
  rw [List.any_eq_true] at h ⊢
  obtain ⟨a, ha, hb⟩ := h
  rw [Bool.and_eq_true] at hb
  exact ⟨a, ha, hb.1⟩
theorem both_mem {l : List (Int × Int)} {ip port : Int} (h : (ip, port) ∈ l) : bothIn l ip port = true := by
  unfold bothIn
  rw [List.any_eq_true]
  exact ⟨_, h, by simp⟩
theorem punch_comm (m f n g : Int) : punchT m f n g = punchT n g m f := by unfold punchT; rw [Bool.or_comm]
end Go.Proofs.Ytdpgmdkclaahdaa.Nb