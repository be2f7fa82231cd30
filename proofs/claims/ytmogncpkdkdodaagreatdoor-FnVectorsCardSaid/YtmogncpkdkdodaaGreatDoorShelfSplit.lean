/- See the module that is imported. -/
import Derived.Test.YtmogncpkdkdodaaGreatDoorShelfNum
